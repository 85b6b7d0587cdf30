/- The law MemoryStores, walked. -/
import Derived.Test.YtleihmmkonakhaaDoorMR5
namespace Go.Proofs.YtleihmmkonakhaaDoor
open Go Go.RowKit Go.Shelf Go.Maps
attribute [local go_sem] Oper.semAt_some

theorem boxed_keepT {w w' : World} {B : Nat} {t : TypeId} {v : Value} (h : Boxed w B t v) (hk : KeepT w w') (ht : t ≠ 76) : Boxed w' B t v := hk B _ t ht h
theorem TwoM.storedK {w0 w1 w : World} {vm vo lv : Value} {S T : Nat → Nat} {l : List (Nat × Nat)} (h : TwoM w0 w1 vm vo S T) (ha : Adds w1 w) (hl : CellsW (fun g => g < w0.heap.size ∨ w1.heap.size ≤ g) w lv l) (hok : cellsOk l) :
    Calls Tryd.prog 12 #[vo, lv] w fun e w' => e = .returned (.int .i64 0) ∧ TwoM w0 w' vm vo S (storeAll T l) ∧ KeepT w w' := by
  obtain ⟨⟨bm, b, L, bo, bb, K, h1, h2, h3, h4, h5⟩, h6⟩ := h
  have k1 := h1.adds ha
  have k2 := h2.adds ha
  have k6 := Adds.trans h6 ha
  refine (storeM_any bo bb vo lv l T K w k2 (hl.mono fun g hg hx hf => ?_) hok).mono ?_
  · rcases hx with hx | hx
    · have := h4 g hf; omega
    · have := h2.foot_lt hf; omega
  · rintro e w' ⟨he, K', m1, f1, n1⟩
    refine ⟨he, ⟨⟨bm, b, L, bo, bb, K', k1.frm f1 (fun k hk hf => h5 k hk (.inr hf)), m1, h3, fun k hk => ?_, fun k hk hf => ?_⟩, Frm.adds k6 f1 (fun i hi => h4 i (.inr hi))⟩, frm_keepT k2.mem f1⟩
    · rcases hk with rfl | hk
      · exact h4 _ (.inl rfl)
      · rcases n1 k hk with hk | hk
        · exact h4 k (.inr hk)
        · exact Nat.le_trans k6.size hk
    · rcases hf with rfl | hf
      · exact h5 _ hk (.inl rfl)
      · rcases n1 k hf with hf | hf
        · exact h5 k hk (.inr hf)
        · have := k1.foot_lt hk; omega
theorem HasM.two_new {w0 w1 w2 : World} {bm b : Nat} {vm vo : Value} {S : Nat → Nat} (h : HasM w0 w1 vm S) (hm : MemP w2 vo (fun _ => 0) bm b []) (a : Adds w1 w2) (l1 : w1.heap.size ≤ bm) (l2 : w1.heap.size ≤ b) : TwoM w0 w2 vm vo S (fun _ => 0) := by
  obtain ⟨⟨b1, b2, L, k1, k2⟩, k3⟩ := h
  have hf : ∀ k, footP bm b [] k → w1.heap.size ≤ k := fun k hk => by
    rcases hk with h | h | h
    · rw [h]; exact l1
    · rw [h]; exact l2
    · simp at h
  exact ⟨⟨b1, b2, L, bm, b, [], k1.adds a, hm, k2, fun k hk => Nat.le_trans k3.size (hf k hk), fun k hk hh => by have := k1.foot_lt hk; have := hf k hh; omega⟩, Adds.trans k3 a⟩
theorem TwoM.has {w0 w : World} {vm vo : Value} {S T : Nat → Nat} (h : TwoM w0 w vm vo S T) : HasM w0 w vm S := by
  obtain ⟨⟨bm, b, L, bo, bb, K, h1, h2, h3, h4, h5⟩, h6⟩ := h
  exact ⟨⟨bm, b, L, h1, h3⟩, h6⟩
theorem HasM.stored1 {w0 w : World} {vm : Value} {S : Nat → Nat} {g : Nat} (h : HasM w0 w vm S) (x : Nat × Nat) (hg : w.heap[g]? = some (.cells #[.int .u32 ((x.1 : Nat) : Int), .int .u32 ((x.2 : Nat) : Int)] 31 (0, 0))) (hx : x.1 < 4294967296 ∧ x.2 < 4294967296) :
    Calls Tryd.prog 12 #[vm, .slice (some ⟨g, 0, none⟩) 1 1] w fun e w' => e = .returned (.int .i64 0) ∧ HasM w0 w' vm (setW S x.1 x.2) ∧ KeepT w w' := by
  obtain ⟨⟨bo, bb, K, h2, h4⟩, h6⟩ := h
  have hg' : w.heap[g]? = some (.cells (flatC [x]) 31 (0, 0)) := by simpa [flatC, u32V] using hg
  have hnf : ¬ footP bo bb K g := by
    rintro (rfl | hf)
    · rw [h2.cell] at hg
      have h9 : (52 : Nat) = 31 := by
        have := Option.some.inj hg
        injection this
      exact absurd h9 (by decide)
    · exact foot_not_cell h2.mem hg hf
  refine (storeM_any bo bb vm _ [x] S K w h2 (cells_flat _ hnf hg' (by simp)) (by intro y hy; rw [List.mem_singleton.1 hy]; exact hx)).mono ?_
  rintro e w' ⟨he, K', m1, f1, n1⟩
  refine ⟨he, ⟨⟨bo, bb, K', m1, fun k hk => ?_⟩, Frm.adds h6 f1 (fun i hi => h4 i (.inr hi))⟩, frm_keepT h2.mem f1⟩
  rcases hk with rfl | hk
  · exact h4 _ (.inl rfl)
  · rcases n1 k hk with hk | hk
    · exact h4 k (.inr hk)
    · exact Nat.le_trans h6.size hk
def RegS8 (w0 w5 : World) (vm : Value) (S : Nat → Nat) (x : Nat × Nat) (L5 L6 : Bool) (s36 : Value) (b' fr : Act) (w2 : World) : Prop :=
  b' = fr ∧ HasM w0 w2 vm (cond L6 (setW S x.1 x.2) S) ∧ KeepT w5 w2 ∧ (L5 = true → ∃ g, s36 = .slice (some ⟨g, 0, none⟩) 1 1 ∧ w2.heap[g]? = some (.cells #[.int .u32 ((x.1 : Nat) : Int), .int .u32 ((x.2 : Nat) : Int)] 31 (0, 0)))
def RegS7 (w0 : World) (vm rv : Value) (S : Nat → Nat) (cs cx : List (Nat × Nat)) (n4 : Nat) (L11 L12 : Bool) (n30 : Value) (b' fr : Act) (w2 : World) : Prop :=
  b' = fr ∧ HasM w0 w2 vm S ∧ OwnC 0 w2 rv cs ∧ Boxed w2 n4 27 (cond L12 n30 rv) ∧ (L11 = true → OwnC 0 w2 n30 cx)
set_option maxRecDepth 100000 in
set_option maxHeartbeats 16000000 in
theorem law_storesM (v : Value) (l : List (Nat × Nat)) (w : World) (hl : CellsW (fun g => g < w.heap.size) w v l) (hok : cellsOk l) (hw : Widths w) :
    Calls Tryd.prog 3 #[v] w (TrueM w) := by
  have hmo : Tryd.prog.follows .mixedOrders = true := by kernel_rfl
  have HW := Lib.hid hw; have HOK := Lib.hid hok
  have HNum := Lib.hid numM_any
  clear hw hok
  obtain ⟨ao, cap, rfl, h1, h2, _⟩ := id hl
  have HL := Lib.hid hl
  clear hl
  unfold maxLen at h2
  have HWk := Lib.hid (fun (W : World) (h : Adds w W) => worksM_any W (HW.out.below h))
  by_cases h40 : 40 < l.length
  · have HK := Lib.hid (HWk.out w (Adds.refl w))
    have h40' : (40 : Int) < (l.length : Int) := by omega
    clear h40
    go_enter Tryd.func3, Tryd.ntmps3
    go_wp2_with (go_at_call 8; refine HK.out.mono ?_; rintro e w1 ⟨rfl, a1⟩; have A1 := Lib.hid a1; clear a1)
    go_ret
    exact ⟨rfl, A1.out⟩
  · have h40' : ¬ (40 : Int) < (l.length : Int) := by omega
    have HFL := Lib.hid (show l.length ≤ 40 by omega)
    clear h40
    go_enter Tryd.func3, Tryd.ntmps3
    go_wp2_with fail
    refine (newM_any _).mono ?_
    rintro e w1 ⟨bm, b, rfl, hm, ha, hbm, hb⟩
    obtain ⟨vm, hvm⟩ : ∃ vm, Value.pointer (some ⟨bm, 0, none⟩) = vm := ⟨_, rfl⟩
    rw [hvm] at hm ⊢
    have HM1 := Lib.hid (HasM.new hm ha hbm hb)
    clear hm ha hbm hb hvm
    go_wp2_with fail
    obtain ⟨W2, hW2⟩ : ∃ W2, w1.alloc (.cells #[.slice none 0 0] 27) = W2 := ⟨_, rfl⟩
    have HM2 := Lib.hid (show HasM w W2 vm (fun _ => 0) by rw [← hW2]; exact HM1.out.adds (Adds.new _ _))
    have HX4 := Lib.hid (show Boxed W2 w1.heap.size 27 (.slice none 0 0) by rw [← hW2]; exact heap_alloc_new w1 _)
    have HL4 := Lib.hid (show w.heap.size ≤ w1.heap.size from HM1.out.low.size)
    rw [hW2]
    clear hW2 HM1
    obtain ⟨n4, hn4⟩ : ∃ n4, w1.heap.size = n4 := ⟨_, rfl⟩
    rw [hn4] at HX4 HL4 ⊢
    clear hn4
    go_loopw [5] (fun t5 wr => ∃ (k : Nat) (rv : Value), k ≤ l.length ∧ t5 = .int .i64 k ∧ HasM w wr vm (storeAll (fun _ => 0) (l.take k)) ∧ OwnC 0 wr rv (refC (l.take k)) ∧ IsCells (storeAll (fun _ => 0) (l.take k)) (refC (l.take k)) ∧
      Boxed wr n4 27 rv) (fun t5 _ => l.length - (intOf t5).toNat)
    case atStart => exact ⟨0, .slice none 0 0, Nat.zero_le _, rfl, HM2.out, OwnC.nil _ _, none_cells, HX4.out⟩
    case round =>
      obtain ⟨k, rv, hk, rfl, hm, ho, hc, hx4⟩ := hrel
      have HM := Lib.hid hm; have HO := Lib.hid ho; have HC := Lib.hid hc; have H4 := Lib.hid hx4; have HK := Lib.hid hk
      obtain ⟨rp, rn, rc, rfl⟩ := ho.slice
      clear hm ho hc hx4 hk HM2 HX4
      by_cases hlt : k < l.length
      · have hltI : (k : Int) < (l.length : Int) := by omega
        obtain ⟨g, off, rfl, k0, k1⟩ := cells_read HL.out HM.out.low hlt
        have HT1 := Lib.hid (storeAll_take (fun _ => 0) l k hlt)
        have HT2 := Lib.hid (refC_take l k hlt)
        have HX := Lib.hid (HOK.out.at k)
        have HAt := Lib.hid (show l.getD k (0, 0) = atL l k from rfl)
        rw [HAt.out] at HX HT1
        have HLt := Lib.hid hlt
        clear hlt HAt
        obtain ⟨y, hy⟩ : ∃ y, atL l k = y := ⟨_, rfl⟩
        have HY := Lib.hid hy
        rw [hy] at k0 k1 HX HT1 HT2
        clear hy
        obtain ⟨ya, yv⟩ := y
        simp only at k0 k1 HX HT1 HT2
        have HCl := Lib.hid (fun (W : World) (h : Adds w W) => (show W.cell? ⟨g, off + k * 2, none⟩ = some (.int .u32 ((ya : Nat) : Int)) ∧ W.cell? ⟨g, off + k * 2 + 1, none⟩ = some (.int .u32 ((yv : Nat) : Int)) by
          obtain ⟨g', off', e, j0, j1⟩ := cells_read HL.out h HLt.out
          simp only [Option.some.injEq, Addr.mk.injEq, and_true] at e
          obtain ⟨rfl, rfl⟩ := e
          rw [HY.out] at j0 j1
          exact ⟨j0, j1⟩))
        obtain ⟨S, hS⟩ : ∃ S, storeAll (fun _ => 0) (l.take k) = S := ⟨_, rfl⟩
        obtain ⟨cs, hcs⟩ : ∃ cs, refC (l.take k) = cs := ⟨_, rfl⟩
        rw [hS] at HM HC HT1
        rw [hcs] at HO HC HT2
        clear hS hcs k0 k1
        go_wp2_with fail
        refine (wpIn_wide (n := 6)).1 ?_
        refine wpIn_region_inv (fun L b' w2 => ∃ n30 : Value, RegS7 w vm (.slice rp rn rc) S cs (stC ya yv cs) n4 (L 11) (L 12) n30 b' ({ tmps := #[Value.slice (some { block := g, off := off }) l.length cap, undef, u2, vm, Value.pointer (some { block := n4, off := 0 }), Value.int IntKind.i64 ((k : Nat) : Int), undef, Value.slice (some { block := g, off := off }) l.length cap, Value.int IntKind.i64 ((l.length : Nat) : Int), Value.bool false, undef, vm, Value.agg #[Value.slice none 0 0], Value.int IntKind.i64 ((k : Nat) : Int), Value.slice (some { block := g, off := off }) l.length cap, Value.int IntKind.i64 ((l.length : Nat) : Int), Value.bool true, u17, u18, sel2 (L 0) (Value.agg #[Value.slice rp rn rc]) (u19), sel2 (L 1) (Value.slice (some { block := g, off := off }) l.length cap) (u20), sel2 (L 2) (Value.int IntKind.i64 ((k : Nat) : Int)) (u21), sel2 (L 3) (Value.pointer (some { block := g, off := off + k * 2 })) (u22), sel2 (L 4) (Value.pointer (some { block := g, off := off + k * 2 })) (u23), sel2 (L 5) (Value.int IntKind.u32 ((ya : Nat) : Int)) (u24), sel2 (L 6) (Value.slice (some { block := g, off := off }) l.length cap) (u25), sel2 (L 7) (Value.int IntKind.i64 ((k : Nat) : Int)) (u26), sel2 (L 8) (Value.pointer (some { block := g, off := off + k * 2 })) (u27), sel2 (L 9) (Value.pointer (some { block := g, off := off + k * 2 + 1 })) (u28), sel2 (L 10) (Value.int IntKind.u32 ((yv : Nat) : Int)) (u29), sel2 (L 11) (Value.agg #[n30]) (u30), u31, u32, u33, u34, u35, u36, u37, u38, u39, u40, u41, u42, u43, u44, u45, u46, u47, u48, u49, u50, u51, u52, u53, undef, undef, undef, undef, undef, undef, undef, undef, undef, undef, undef, undef, undef, undef, undef, undef, undef, undef, undef, undef, undef, undef, undef, undef, undef, undef], defers := [] }) w2) hmo (by kernel_rfl) ?inv0 ?step ?fin
        case inv0 => exact ⟨undef, rfl, HM.out.adds (Adds.drew _), HO.out.adds (Adds.drew _), boxed_adds H4.out (Adds.drew _), fun h => (by cases h)⟩
        case step =>
          rintro L b' w2 i o ho hL hC he ⟨n30, rfl, hP⟩
          have q12 := hC 12 _ rfl
          have q11 := hC 11 _ rfl
          simp [Region.binds] at q12 q11
          clear hC
          have HP := Lib.hid hP
          obtain ⟨j0, j1⟩ := HCl.out w2 hP.1.low
          have d4 : L 12 = false → w2.cell? ⟨n4, 0, none⟩ = some (.slice rp rn rc) := fun hz => by have e := hP.2.2.1; rw [hz] at e; exact e.cell
          clear hP
          rcases i with _ | _ | _ | _ | _ | _ | _ | _ | _ | _ | _ | _ | _ | i
          · simp only [List.getElem?_cons_zero, Option.some.injEq] at ho
            subst ho
            try simp [Region.binds] at he
            have z11 : L 11 = false := by cases h : L 11 with | false => rfl | true => (have := q11 h; simp [hL] at this)
            have z12 : L 12 = false := by cases h : L 12 with | false => rfl | true => (have := q12 h; simp [z11] at this)
            have d := d4 z12
            clear q11 q12
            try simp only []
            gi_wp2
            refine ⟨n30, by simp [sel2, *], HP.out.1, HP.out.2.1, (by first | exact HP.out.2.2.1 | simpa [z12] using HP.out.2.2.1), (by first | exact HP.out.2.2.2 | (intro h; cases h))⟩
          · simp only [List.getElem?_cons_zero, List.getElem?_cons_succ, Option.some.injEq] at ho
            subst ho
            try simp [Region.binds] at he
            clear q11 q12
            try simp only []
            gi_wp2
            refine ⟨n30, by simp [sel2, *], HP.out.1, HP.out.2.1, (by first | exact HP.out.2.2.1 | simpa [he] using HP.out.2.2.1), (by first | exact HP.out.2.2.2 | simpa [he] using HP.out.2.2.2)⟩
          · simp only [List.getElem?_cons_zero, List.getElem?_cons_succ, Option.some.injEq] at ho
            subst ho
            try simp [Region.binds] at he
            clear q11 q12
            try simp only []
            gi_wp2
            refine ⟨n30, by simp [sel2, *], HP.out.1, HP.out.2.1, (by first | exact HP.out.2.2.1 | simpa [he] using HP.out.2.2.1), (by first | exact HP.out.2.2.2 | simpa [he] using HP.out.2.2.2)⟩
          · simp only [List.getElem?_cons_zero, List.getElem?_cons_succ, Option.some.injEq] at ho
            subst ho
            try simp [Region.binds] at he
            clear q11 q12
            try simp only [he, sel2_t]
            gi_wp2
            refine ⟨n30, by simp [sel2, *], HP.out.1, HP.out.2.1, (by first | exact HP.out.2.2.1 | simpa [he] using HP.out.2.2.1), (by first | exact HP.out.2.2.2 | simpa [he] using HP.out.2.2.2)⟩
          · simp only [List.getElem?_cons_zero, List.getElem?_cons_succ, Option.some.injEq] at ho
            subst ho
            try simp [Region.binds] at he
            clear q11 q12
            try simp only [he, sel2_t]
            gi_wp2
            refine ⟨n30, by simp [sel2, *], HP.out.1, HP.out.2.1, (by first | exact HP.out.2.2.1 | simpa [he] using HP.out.2.2.1), (by first | exact HP.out.2.2.2 | simpa [he] using HP.out.2.2.2)⟩
          · simp only [List.getElem?_cons_zero, List.getElem?_cons_succ, Option.some.injEq] at ho
            subst ho
            try simp [Region.binds] at he
            clear q11 q12
            try simp only [he, sel2_t]
            gi_wp2
            refine ⟨n30, by simp [sel2, *], HP.out.1, HP.out.2.1, (by first | exact HP.out.2.2.1 | simpa [he] using HP.out.2.2.1), (by first | exact HP.out.2.2.2 | simpa [he] using HP.out.2.2.2)⟩
          · simp only [List.getElem?_cons_zero, List.getElem?_cons_succ, Option.some.injEq] at ho
            subst ho
            try simp [Region.binds] at he
            clear q11 q12
            try simp only []
            gi_wp2
            refine ⟨n30, by simp [sel2, *], HP.out.1, HP.out.2.1, (by first | exact HP.out.2.2.1 | simpa [he] using HP.out.2.2.1), (by first | exact HP.out.2.2.2 | simpa [he] using HP.out.2.2.2)⟩
          · simp only [List.getElem?_cons_zero, List.getElem?_cons_succ, Option.some.injEq] at ho
            subst ho
            try simp [Region.binds] at he
            clear q11 q12
            try simp only []
            gi_wp2
            refine ⟨n30, by simp [sel2, *], HP.out.1, HP.out.2.1, (by first | exact HP.out.2.2.1 | simpa [he] using HP.out.2.2.1), (by first | exact HP.out.2.2.2 | simpa [he] using HP.out.2.2.2)⟩
          · simp only [List.getElem?_cons_zero, List.getElem?_cons_succ, Option.some.injEq] at ho
            subst ho
            try simp [Region.binds] at he
            clear q11 q12
            try simp only [he, sel2_t]
            gi_wp2
            refine ⟨n30, by simp [sel2, *], HP.out.1, HP.out.2.1, (by first | exact HP.out.2.2.1 | simpa [he] using HP.out.2.2.1), (by first | exact HP.out.2.2.2 | simpa [he] using HP.out.2.2.2)⟩
          · simp only [List.getElem?_cons_zero, List.getElem?_cons_succ, Option.some.injEq] at ho
            subst ho
            try simp [Region.binds] at he
            clear q11 q12
            try simp only [he, sel2_t]
            gi_wp2
            refine ⟨n30, by simp [sel2, *], HP.out.1, HP.out.2.1, (by first | exact HP.out.2.2.1 | simpa [he] using HP.out.2.2.1), (by first | exact HP.out.2.2.2 | simpa [he] using HP.out.2.2.2)⟩
          · simp only [List.getElem?_cons_zero, List.getElem?_cons_succ, Option.some.injEq] at ho
            subst ho
            try simp [Region.binds] at he
            clear q11 q12
            try simp only [he, sel2_t]
            gi_wp2
            refine ⟨n30, by simp [sel2, *], HP.out.1, HP.out.2.1, (by first | exact HP.out.2.2.1 | simpa [he] using HP.out.2.2.1), (by first | exact HP.out.2.2.2 | simpa [he] using HP.out.2.2.2)⟩
          · simp only [List.getElem?_cons_zero, List.getElem?_cons_succ, Option.some.injEq] at ho
            subst ho
            try simp [Region.binds] at he
            have z12 : L 12 = false := by cases h : L 12 with | false => rfl | true => (have := q12 h; simp [hL] at this)
            clear q11 q12
            simp only [he, sel2_t]
            have HRS := Lib.hid (refStore_any (.slice rp rn rc) cs ya yv w2 (HP.out.2.1.cells.mono fun _ _ _ => trivial) (cells_few HC.out))
            gi_wp2_with (refine ⟨trivial, ?_⟩; gi_at_call 10; refine (callsIn_wide.2 HRS.out).mono ?_; rintro e w3 ⟨s, rfl, hs, hA3⟩; have HA3 := Lib.hid hA3; have HS := Lib.hid (OwnC.base hs (Nat.zero_le _)); clear hs hA3)
            refine ⟨s, by simp [sel2, *], HP.out.1.adds HA3.out, HP.out.2.1.adds HA3.out, (by have e := HP.out.2.2.1; rw [z12] at e; have e2 := boxed_adds e HA3.out; simpa [z12] using e2), (fun _ => HS.out)⟩
          · simp only [List.getElem?_cons_zero, List.getElem?_cons_succ, Option.some.injEq] at ho
            subst ho
            try simp [Region.binds] at he
            clear q11 q12
            have p11 : L 11 = true := by simp [he]
            obtain ⟨p, q, c, rfl⟩ := (HP.out.2.2.2 p11).slice
            have HE3 := Lib.hid (show w2.heap[n4]? = some (.cells #[.slice rp rn rc] 27 (0, 0)) by have e := HP.out.2.2.1; rw [hL] at e; exact e)
            have c9 := (cell_of_box_a HE3.out).1
            have f9 := (cell_of_box_a HE3.out).2
            simp only [he, sel2_t]
            gi_wp2
            have HT := Lib.hid (Turns.setCell n4 0 w2 (.slice p q c))
            have HKA := Lib.hid (KeepA.turn HT.out HE3.out (by decide))
            have hbx := heap_setCell_box_a (.slice p q c) HE3.out
            refine ⟨.slice p q c, by simp [sel2, *], HP.out.1.turn HT.out HE3.out HL4.out, HP.out.2.1.keepA HKA.out, hbx, (fun _ => (HP.out.2.2.2 p11).keepA HKA.out)⟩
          · simp at ho
        case fin =>
          rintro b w5 ⟨n30, rfl, hm, _, hb, ho⟩
          simp only [List.length_cons, List.length_nil, Nat.reduceAdd, Nat.reduceLT, decide_true, sel2_t]
          have HM5 := Lib.hid hm; have HX5 := Lib.hid (show Boxed w5 n4 27 n30 from hb); have HO5 := Lib.hid (ho rfl)
          obtain ⟨p3, k3, c3, rfl⟩ := (ho rfl).slice
          clear hm hb ho
          have HIc := Lib.hid (HC.out.store ya yv HX.out.1)
          go_wp2_with fail
          refine (wpIn_wide (n := 6)).1 ?_
          refine wpIn_region_inv (fun L b' w2 => ∃ (s36 : Value) (m49 m50 : Int), RegS8 w w5 vm S (ya, yv) (L 5) (L 6) s36 b' ({ tmps := #[Value.slice (some { block := g, off := off }) l.length cap, undef, u2, vm, Value.pointer (some { block := n4, off := 0 }), Value.int IntKind.i64 ((k : Nat) : Int), undef, Value.slice (some { block := g, off := off }) l.length cap, Value.int IntKind.i64 ((l.length : Nat) : Int), Value.bool false, undef, vm, Value.agg #[Value.slice none 0 0], Value.int IntKind.i64 ((k : Nat) : Int), Value.slice (some { block := g, off := off }) l.length cap, Value.int IntKind.i64 ((l.length : Nat) : Int), Value.bool true, u17, u18, Value.agg #[Value.slice rp rn rc], Value.slice (some { block := g, off := off }) l.length cap, Value.int IntKind.i64 ((k : Nat) : Int), Value.pointer (some { block := g, off := off + k * 2 }), Value.pointer (some { block := g, off := off + k * 2 }), Value.int IntKind.u32 ((ya : Nat) : Int), Value.slice (some { block := g, off := off }) l.length cap, Value.int IntKind.i64 ((k : Nat) : Int), Value.pointer (some { block := g, off := off + k * 2 }), Value.pointer (some { block := g, off := off + k * 2 + 1 }), Value.int IntKind.u32 ((yv : Nat) : Int), Value.agg #[Value.slice p3 k3 c3], sel2 (L 0) (vm) (u31), sel2 (L 1) (Value.slice (some { block := g, off := off }) l.length cap) (u32), sel2 (L 2) (Value.int IntKind.i64 ((k : Nat) : Int)) (u33), sel2 (L 3) (Value.pointer (some { block := g, off := off + k * 2 })) (u34), sel2 (L 4) (Value.agg #[Value.int IntKind.u32 ((ya : Nat) : Int), Value.int IntKind.u32 ((yv : Nat) : Int)]) (u35), sel2 (L 5) (s36) (u36), sel2 (L 6) (Value.int IntKind.i64 0) (u37), sel2 (L 7) (Value.int IntKind.i64 0) (u38), sel2 (L 8) (Value.bool false) (u39), sel2 (L 9) (Value.bool false) (u40), sel2 (L 10) (vm) (u41), sel2 (L 11) (Value.agg #[Value.slice p3 k3 c3]) (u42), sel2 (L 12) (Value.slice (some { block := g, off := off }) l.length cap) (u43), sel2 (L 13) (Value.int IntKind.i64 ((k : Nat) : Int)) (u44), sel2 (L 14) (Value.pointer (some { block := g, off := off + k * 2 })) (u45), sel2 (L 15) (Value.pointer (some { block := g, off := off + k * 2 })) (u46), sel2 (L 16) (Value.int IntKind.u32 ((ya : Nat) : Int)) (u47), sel2 (L 17) (Value.int IntKind.i64 ((k : Nat) : Int)) (u48), sel2 (L 18) (Value.int IntKind.i64 m49) (u49), sel2 (L 19) (Value.int IntKind.i64 m50) (u50), sel2 (L 20) (Value.bool true) (u51), sel2 (L 21) (Value.bool false) (u52), sel2 (L 22) (Value.bool false) (u53), undef, undef, undef, undef, undef, undef, undef, undef, undef, undef, undef, undef, undef, undef, undef, undef, undef, undef, undef, undef, undef, undef, undef, undef, undef, undef], defers := [] }) w2) hmo (by kernel_rfl) ?inv1 ?step1 ?fin1
          case inv1 => exact ⟨undef, 0, 0, rfl, HM5.out.adds (Adds.drew _), KeepT.of_adds (Adds.drew _), fun h => (by cases h)⟩
          case step1 =>
            rintro L b' w2 i o ho hL hC he ⟨s36, m49, m50, rfl, hP⟩
            have q6 := hC 6 _ rfl
            have q7 := hC 7 _ rfl
            have q8 := hC 8 _ rfl
            have q9 := hC 9 _ rfl
            simp [Region.binds] at q6 q7 q8 q9
            have q9 : L 9 = true → L 6 = true := fun h => q7 (q8 (q9 h).1)
            clear hC q7 q8
            have HP := Lib.hid hP
            obtain ⟨j0, j1⟩ := HCl.out w2 hP.1.low
            have d4 := (boxed_keepT HX5.out hP.2.1 (by decide)).cell
            clear hP
            rcases i with _ | _ | _ | _ | _ | _ | _ | _ | _ | _ | _ | _ | _ | _ | _ | _ | _ | _ | _ | _ | _ | _ | _ | i
            · simp only [List.getElem?_cons_zero, Option.some.injEq] at ho
              subst ho
              try simp [Region.binds] at he
              clear q6 q9
              try simp only []
              gi_wp2
              refine ⟨s36, m49, m50, by simp [sel2, *]; try rfl, (by first | exact HP.out.1 | simpa [he] using HP.out.1), HP.out.2.1, (by first | exact HP.out.2.2 | simpa [he] using HP.out.2.2)⟩
            · simp only [List.getElem?_cons_zero, List.getElem?_cons_succ, Option.some.injEq] at ho
              subst ho
              try simp [Region.binds] at he
              clear q6 q9
              try simp only []
              gi_wp2
              refine ⟨s36, m49, m50, by simp [sel2, *]; try rfl, (by first | exact HP.out.1 | simpa [he] using HP.out.1), HP.out.2.1, (by first | exact HP.out.2.2 | simpa [he] using HP.out.2.2)⟩
            · simp only [List.getElem?_cons_zero, List.getElem?_cons_succ, Option.some.injEq] at ho
              subst ho
              try simp [Region.binds] at he
              clear q6 q9
              try simp only []
              gi_wp2
              refine ⟨s36, m49, m50, by simp [sel2, *]; try rfl, (by first | exact HP.out.1 | simpa [he] using HP.out.1), HP.out.2.1, (by first | exact HP.out.2.2 | simpa [he] using HP.out.2.2)⟩
            · simp only [List.getElem?_cons_zero, List.getElem?_cons_succ, Option.some.injEq] at ho
              subst ho
              try simp [Region.binds] at he
              clear q6 q9
              try simp only [he, sel2_t]
              gi_wp2
              refine ⟨s36, m49, m50, by simp [sel2, *]; try rfl, (by first | exact HP.out.1 | simpa [he] using HP.out.1), HP.out.2.1, (by first | exact HP.out.2.2 | simpa [he] using HP.out.2.2)⟩
            · simp only [List.getElem?_cons_zero, List.getElem?_cons_succ, Option.some.injEq] at ho
              subst ho
              try simp [Region.binds] at he
              clear q6 q9
              try simp only [he, sel2_t]
              gi_wp2
              refine ⟨s36, m49, m50, by simp [sel2, *]; try rfl, (by first | exact HP.out.1 | simpa [he] using HP.out.1), HP.out.2.1, (by first | exact HP.out.2.2 | simpa [he] using HP.out.2.2)⟩
            · simp only [List.getElem?_cons_zero, List.getElem?_cons_succ, Option.some.injEq] at ho
              subst ho
              try simp [Region.binds] at he
              have z6 : L 6 = false := by cases h : L 6 with | false => rfl | true => (have := q6 h; simp [hL] at this)
              clear q6 q9
              simp only [he, sel2_t]
              gi_wp2
              refine ⟨.slice (some ⟨w2.heap.size, 0, none⟩) 1 1, m49, m50, by simp [sel2, *], (by have e := HP.out.1; rw [z6] at e; simpa [z6] using e.adds (Adds.new w2 _)), KeepT.trans HP.out.2.1 (KeepT.of_adds (Adds.new w2 _)), (fun _ => ⟨_, rfl, heap_alloc_new w2 _⟩)⟩
            · simp only [List.getElem?_cons_zero, List.getElem?_cons_succ, Option.some.injEq] at ho
              subst ho
              try simp [Region.binds] at he
              clear q6 q9
              have p5 : L 5 = true := by simp [he]
              obtain ⟨g', rfl, hg⟩ := HP.out.2.2 p5
              have e := HP.out.1
              rw [hL] at e
              have HSt := Lib.hid (HasM.stored1 e (ya, yv) hg HX.out)
              clear e
              simp only [he, sel2_t]
              gi_wp2_with (refine ⟨trivial, ?_⟩; gi_at_call 12; refine (callsIn_wide.2 HSt.out).mono ?_; rintro e w3 ⟨rfl, q1, q2⟩; have Q1 := Lib.hid q1; have Q2 := Lib.hid q2; clear q1 q2)
              refine ⟨.slice (some ⟨g', 0, none⟩) 1 1, m49, m50, by simp [sel2, *], (by simpa using Q1.out), KeepT.trans HP.out.2.1 Q2.out, (fun _ => ⟨g', rfl, Q2.out g' _ _ (by decide) hg⟩)⟩
            · simp only [List.getElem?_cons_zero, List.getElem?_cons_succ, Option.some.injEq] at ho
              subst ho
              try simp [Region.binds] at he
              clear q6 q9
              simp only [he, sel2_t]
              gi_wp2_with (refine ⟨trivial, ?_⟩; gi_at_call 11; refine (callsIn_wide.2 (HNum.out _ _)).mono ?_; rintro e w3 ⟨rfl, rfl⟩)
              refine ⟨s36, m49, m50, by simp [sel2, *], (by first | exact HP.out.1 | simpa [he] using HP.out.1), HP.out.2.1, (by first | exact HP.out.2.2 | simpa [he] using HP.out.2.2)⟩
            · simp only [List.getElem?_cons_zero, List.getElem?_cons_succ, Option.some.injEq] at ho
              subst ho
              try simp [Region.binds] at he
              clear q6 q9
              try simp only [he, sel2_t]
              gi_wp2
              refine ⟨s36, m49, m50, by simp [sel2, *]; try rfl, (by first | exact HP.out.1 | simpa [he] using HP.out.1), HP.out.2.1, (by first | exact HP.out.2.2 | simpa [he] using HP.out.2.2)⟩
            · simp only [List.getElem?_cons_zero, List.getElem?_cons_succ, Option.some.injEq] at ho
              subst ho
              try simp [Region.binds] at he
              clear q6 q9
              try simp only [he, sel2_t]
              gi_wp2
              refine ⟨s36, m49, m50, by simp [sel2, *]; try rfl, (by first | exact HP.out.1 | simpa [he] using HP.out.1), HP.out.2.1, (by first | exact HP.out.2.2 | simpa [he] using HP.out.2.2)⟩
            · simp only [List.getElem?_cons_zero, List.getElem?_cons_succ, Option.some.injEq] at ho
              subst ho
              try simp [Region.binds] at he
              clear q6 q9
              try simp only [he, sel2_t]
              gi_wp2
              refine ⟨s36, m49, m50, by simp [sel2, *]; try rfl, (by first | exact HP.out.1 | simpa [he] using HP.out.1), HP.out.2.1, (by first | exact HP.out.2.2 | simpa [he] using HP.out.2.2)⟩
            · simp only [List.getElem?_cons_zero, List.getElem?_cons_succ, Option.some.injEq] at ho
              subst ho
              try simp [Region.binds] at he
              clear q6 q9
              try simp only [he, sel2_t]
              gi_wp2
              refine ⟨s36, m49, m50, by simp [sel2, *]; try rfl, (by first | exact HP.out.1 | simpa [he] using HP.out.1), HP.out.2.1, (by first | exact HP.out.2.2 | simpa [he] using HP.out.2.2)⟩
            · simp only [List.getElem?_cons_zero, List.getElem?_cons_succ, Option.some.injEq] at ho
              subst ho
              try simp [Region.binds] at he
              clear q6 q9
              try simp only [he, sel2_t]
              gi_wp2
              refine ⟨s36, m49, m50, by simp [sel2, *]; try rfl, (by first | exact HP.out.1 | simpa [he] using HP.out.1), HP.out.2.1, (by first | exact HP.out.2.2 | simpa [he] using HP.out.2.2)⟩
            · simp only [List.getElem?_cons_zero, List.getElem?_cons_succ, Option.some.injEq] at ho
              subst ho
              try simp [Region.binds] at he
              clear q6 q9
              try simp only [he, sel2_t]
              gi_wp2
              refine ⟨s36, m49, m50, by simp [sel2, *]; try rfl, (by first | exact HP.out.1 | simpa [he] using HP.out.1), HP.out.2.1, (by first | exact HP.out.2.2 | simpa [he] using HP.out.2.2)⟩
            · simp only [List.getElem?_cons_zero, List.getElem?_cons_succ, Option.some.injEq] at ho
              subst ho
              try simp [Region.binds] at he
              clear q6 q9
              try simp only [he, sel2_t]
              gi_wp2
              refine ⟨s36, m49, m50, by simp [sel2, *]; try rfl, (by first | exact HP.out.1 | simpa [he] using HP.out.1), HP.out.2.1, (by first | exact HP.out.2.2 | simpa [he] using HP.out.2.2)⟩
            · simp only [List.getElem?_cons_zero, List.getElem?_cons_succ, Option.some.injEq] at ho
              subst ho
              try simp [Region.binds] at he
              clear q6 q9
              try simp only [he, sel2_t]
              gi_wp2
              refine ⟨s36, m49, m50, by simp [sel2, *]; try rfl, (by first | exact HP.out.1 | simpa [he] using HP.out.1), HP.out.2.1, (by first | exact HP.out.2.2 | simpa [he] using HP.out.2.2)⟩
            · simp only [List.getElem?_cons_zero, List.getElem?_cons_succ, Option.some.injEq] at ho
              subst ho
              try simp [Region.binds] at he
              clear q6 q9
              try simp only [he, sel2_t]
              gi_wp2
              refine ⟨s36, m49, m50, by simp [sel2, *]; try rfl, (by first | exact HP.out.1 | simpa [he] using HP.out.1), HP.out.2.1, (by first | exact HP.out.2.2 | simpa [he] using HP.out.2.2)⟩
            · simp only [List.getElem?_cons_zero, List.getElem?_cons_succ, Option.some.injEq] at ho
              subst ho
              try simp [Region.binds] at he
              clear q6 q9
              try simp only [he, sel2_t]
              gi_wp2
              refine ⟨s36, m49, m50, by simp [sel2, *]; try rfl, (by first | exact HP.out.1 | simpa [he] using HP.out.1), HP.out.2.1, (by first | exact HP.out.2.2 | simpa [he] using HP.out.2.2)⟩
            · simp only [List.getElem?_cons_zero, List.getElem?_cons_succ, Option.some.injEq] at ho
              subst ho
              try simp [Region.binds] at he
              clear q6 q9
              try simp only [he, sel2_t]
              gi_wp2
              refine ⟨s36, _, m50, by simp [sel2, *]; try rfl, (by first | exact HP.out.1 | simpa [he] using HP.out.1), HP.out.2.1, (by first | exact HP.out.2.2 | simpa [he] using HP.out.2.2)⟩
            · simp only [List.getElem?_cons_zero, List.getElem?_cons_succ, Option.some.injEq] at ho
              subst ho
              try simp [Region.binds] at he
              clear q6 q9
              try simp only [he, sel2_t]
              gi_wp2
              refine ⟨s36, m49, _, by simp [sel2, *]; try rfl, (by first | exact HP.out.1 | simpa [he] using HP.out.1), HP.out.2.1, (by first | exact HP.out.2.2 | simpa [he] using HP.out.2.2)⟩
            · simp only [List.getElem?_cons_zero, List.getElem?_cons_succ, Option.some.injEq] at ho
              subst ho
              try simp [Region.binds] at he
              have p6 : L 6 = true := q9 (by simp [he])
              clear q6 q9
              have e := HP.out.1
              rw [p6] at e
              have HIs := Lib.hid (is_any vm (.slice p3 k3 c3) (setW S ya yv) (stC ya yv cs) ya HX.out.1 m50 w w2 e ((HO5.out.keepA HP.out.2.1.a).cells.mono fun _ _ _ => trivial) HIc.out)
              clear e
              simp only [he, sel2_t]
              gi_wp2_with (refine ⟨trivial, ?_⟩; gi_at_call 13; refine (callsIn_wide.2 HIs.out).mono ?_; rintro e w3 ⟨rfl, q⟩; have HA3 := Lib.hid q; clear q)
              refine ⟨s36, m49, m50, by simp [sel2, *], (by have e := HP.out.1.adds HA3.out; simpa [p6] using e), KeepT.trans HP.out.2.1 (KeepT.of_adds HA3.out), (fun h => by obtain ⟨g', e1, e2⟩ := HP.out.2.2 (by first | exact h | simp [he]); exact ⟨g', e1, (Below.block HA3.out g' (Array.getElem?_eq_some_iff.1 e2).1).trans e2⟩)⟩
            · simp only [List.getElem?_cons_zero, List.getElem?_cons_succ, Option.some.injEq] at ho
              subst ho
              try simp [Region.binds] at he
              clear q6 q9
              try simp only [he, sel2_t]
              gi_wp2
              refine ⟨s36, m49, m50, by simp [sel2, *]; try rfl, (by first | exact HP.out.1 | simpa [he] using HP.out.1), HP.out.2.1, (by first | exact HP.out.2.2 | simpa [he] using HP.out.2.2)⟩
            · simp only [List.getElem?_cons_zero, List.getElem?_cons_succ, Option.some.injEq] at ho
              subst ho
              try simp [Region.binds] at he
              clear q6 q9
              try simp only [he, sel2_t]
              gi_wp2
              refine ⟨s36, m49, m50, by simp [sel2, *]; try rfl, (by first | exact HP.out.1 | simpa [he] using HP.out.1), HP.out.2.1, (by first | exact HP.out.2.2 | simpa [he] using HP.out.2.2)⟩
            · simp at ho
          case fin1 =>
            rintro b w6 ⟨s36, m49, m50, rfl, hm, hk, h36⟩
            simp only [List.length_cons, List.length_nil, Nat.reduceAdd, Nat.reduceLT, decide_true, sel2_t]
            have HM6 := Lib.hid (show HasM w w6 vm (setW S ya yv) from hm); have HK6 := Lib.hid hk
            clear hm hk h36
            go_wp2_with fail
            go_roundw
            case rel => exact ⟨k + 1, .slice p3 k3 c3, HLt.out, rfl, by rw [HT1.out]; exact HM6.out, by rw [HT2.out]; exact HO5.out.keepA HK6.out.a, by rw [HT1.out, HT2.out]; exact HIc.out, boxed_keepT HX5.out HK6.out (by decide)⟩
            case measure => simp [intOf]; have := HLt.out; omega
      · obtain rfl : k = l.length := by have := HK.out; omega
        rw [List.take_length] at HM HO HC
        clear hlt
        obtain ⟨S, hS⟩ : ∃ S, storeAll (fun _ => 0) l = S := ⟨_, rfl⟩
        obtain ⟨cs, hcs⟩ : ∃ cs, refC l = cs := ⟨_, rfl⟩
        have HSE := Lib.hid hS
        rw [hS] at HM HC
        rw [hcs] at HO HC
        clear hS hcs
        go_wp2_with fail
        refine (newM_any wr).mono ?_
        rintro e w6 ⟨bo, bb, rfl, hm, ha, hbm, hb⟩
        obtain ⟨vo, hvo⟩ : ∃ vo, Value.pointer (some ⟨bo, 0, none⟩) = vo := ⟨_, rfl⟩
        rw [hvo] at hm ⊢
        have HT6 := Lib.hid (HM.out.two_new hm ha hbm hb)
        have HX6 := Lib.hid (boxed_adds H4.out ha)
        have HO6 := Lib.hid (HO.out.adds ha)
        clear hm ha hbm hb hvo
        have HSt := Lib.hid (HT6.out.storedK (Adds.drew w6) ((HL.out.mono (fun g _ h => (.inl h : g < w.heap.size ∨ w6.heap.size ≤ g))).frm (Frm.of_adds (fun _ => False) (Adds.trans HT6.out.low (Adds.drew w6))) (fun _ _ => id)) HOK.out)
        rw [HSE.out] at HSt
        have HOKc := Lib.hid (isCells_ok HC.out HM.out.word)
        obtain ⟨z, hz⟩ : ∃ z, sumS (cellsB cs) = z := ⟨_, rfl⟩
        have HZ := Lib.hid hz
        clear hz
        go_wp2_with fail
        refine wp_calmM ?_
        go_region_with (first
          | (go_at_call 12; refine HSt.out.mono ?_; rintro e w7 ⟨rfl, q1, q2⟩; have HT7 := Lib.hid q1; have HX7 := Lib.hid (boxed_keepT HX6.out (KeepT.trans (KeepT.of_adds (Adds.drew w6)) q2) (by decide)); have HO7 := Lib.hid (HO6.out.keepA (KeepT.trans (KeepT.of_adds (Adds.drew w6)) q2).a); have c7 := HX7.out.cell; have HSm := Lib.hid ((sameB_true.2 (fun _ _ => rfl : SameW S S)) ▸ q1.sameCall); have HIs := Lib.hid (fun (W : World) (h : Adds w7 W) => is_any vm (.slice rp rn rc) S cs 0 (by omega) 99 w W (HT7.out.adds h).has (cells_adds (HO7.out.cells.mono fun _ _ _ => trivial) h) HC.out); have HDg := Lib.hid (fun (W : World) (h : Adds w7 W) => HZ.out ▸ (HT7.out.adds h).digest (HW.out.below (HT7.out.adds h).low) HC.out); have HRD := Lib.hid (fun (W : World) (h : Adds w7 W) => HZ.out ▸ refDigest_any (.slice rp rn rc) cs W (cells_adds (HO7.out.cells.mono fun _ _ _ => trivial) h) (cells_few HC.out) HOKc.out); clear q1 q2)
          | (go_at_call 11; refine (HNum.out _ _).mono ?_; rintro e w3 ⟨rfl, rfl⟩)
          | (go_at_call 14; refine HSm.out.mono ?_; rintro e w8 ⟨rfl, q⟩; have HA8 := Lib.hid q; have c8 := (boxed_adds HX7.out q).cell; clear q)
          | (go_at_call 13; refine (HIs.out w8 HA8.out).mono ?_; rintro e w9 ⟨rfl, q⟩; have HA9 := Lib.hid (Adds.trans HA8.out q); have c9 := Adds.cellAt q c8; clear q)
          | (go_at_call 15; refine (HDg.out w9 HA9.out).mono ?_; rintro e wa ⟨rfl, q⟩; have HAa := Lib.hid (Adds.trans HA9.out q); have ca := Adds.cellAt q c9; clear q)
          | (go_at_call 16; refine (HRD.out wa HAa.out).mono ?_; rintro e wb ⟨rfl, q⟩; have HAb := Lib.hid (Adds.trans HAa.out q); clear q)
          | (go_at_call 8; refine (HWk.out wb (Adds.trans HT7.out.low HAb.out)).mono ?_; rintro e wc ⟨rfl, q⟩; have HAc := Lib.hid (Adds.trans HAb.out q); clear q))
        all_goals
          simp only [Exit.then]
          go_simp
          go_wp2_with fail
          go_ret
          exact ⟨by simp, Adds.trans HT7.out.low HAc.out⟩
end Go.Proofs.YtleihmmkonakhaaDoor
