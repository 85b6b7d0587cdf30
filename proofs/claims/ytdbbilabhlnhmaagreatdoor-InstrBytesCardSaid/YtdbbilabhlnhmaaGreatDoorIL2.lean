/- The law InstrBytes, walked. (genL2.py wrote this.) -/
import Derived.Test.YtdbbilabhlnhmaaGreatDoorIQ4
import Derived.Test.YtdbbilabhlnhmaaGreatDoorIG5
import Derived.Test.YtdbbilabhlnhmaaGreatDoorIWk
import Derived.Test.YtdbbilabhlnhmaaGreatDoorIRow
namespace Go.Proofs.YtdbbilabhlnhmaaGreatDoor
open Go Go.RowKit Go.Shelf Go.Sort

theorem beqS_yes8 (s : ByteArray) : (s.toList == s.toList) = true := by simp
theorem may_small {x : In} (hm : mayI x = true) : ∃ (op : Nat) (xa xb xc : UInt8) (xi : Nat), x = ((op : Int), (xa.toNat : Int), (xb.toNat : Int), (xc.toNat : Int), (xi : Int)) ∧ 1 ≤ op ∧ op ≤ 19 ∧ xi < 4294967296 := by
  obtain ⟨op, hop, o1, o2, hl⟩ := mayI_op hm
  obtain ⟨o, a, b, c, i⟩ := x
  obtain rfl : o = op := hop
  have h : (0 ≤ a ∧ a < 256) ∧ (0 ≤ b ∧ b < 256) ∧ (0 ≤ c ∧ c < 256) ∧ (0 ≤ i ∧ i < 4294967296) := by
    match op, o1, o2 with
    | 1, _, _ | 2, _, _ | 3, _, _ | 4, _, _ | 5, _, _ | 6, _, _ | 7, _, _ | 8, _, _ | 9, _, _ | 10, _, _ | 11, _, _ | 12, _, _ | 13, _, _ | 14, _, _ | 15, _, _ | 16, _, _ | 17, _, _ | 18, _, _ | 19, _, _ =>
      simp [holdsL, partsN, holdsP, bare, putP, getP, loN, hiN] at hl
      omega
    | k + 20, _, h => exact absurd h (by omega)
  have e : ∀ z : Int, 0 ≤ z ∧ z < 256 → ((UInt8.ofNat z.toNat).toNat : Int) = z := fun z hz => by rw [UInt8.toNat_ofNat']; omega
  refine ⟨op, UInt8.ofNat a.toNat, UInt8.ofNat b.toNat, UInt8.ofNat c.toNat, i.toNat, ?_, o1, o2, by omega⟩
  rw [e a h.1, e b h.2.1, e c h.2.2.1, show ((i.toNat : Nat) : Int) = i by omega]
theorem refBytes_may {x : In} (hm : mayI x = true) (w : World) : Calls Tryz.prog 12 #[insV x] w (GivesB (bytesI x) (fun v => v) w) := by
  obtain ⟨op, xa, xb, xc, xi, rfl, h1, h2, h3⟩ := may_small hm
  rw [← refO_bytes op h1 h2]
  exact refBytesI_any op h1 h2 xa xb xc xi h3 w
theorem bytesI_short {x : In} (hm : mayI x = true) : (bytesI x).length ≤ 9 := by
  obtain ⟨op, xa, xb, xc, xi, rfl, h1, h2, h3⟩ := may_small hm
  rw [← refO_bytes op h1 h2]
  have h := fixB_short xi 4
  unfold refO refB
  simp only [List.length_append, List.length_cons, List.length_nil]
  have h4 : (fixB xi 4).length ≤ 4 := by
    unfold fixB
    split
    · rw [leB_length]; decide
    · simp
  split <;> split <;> split <;> split <;> simp <;> omega
def TrueB (w : World) (e : Ending) (w' : World) : Prop := e = .returned (.bool true) ∧ Adds w w'
theorem IVars.below8 {w w' : World} (h : IVars w) (ha : Adds w w') : IVars w' := h.adds ha
set_option maxRecDepth 100000 in
theorem ibytes_long {n : Nat} (a : In) (v : Value) (l : List UInt8) (hS : 60 < l.length) (w : World) (hb : Bytes n w v l) (hv : IVars w) : Calls Tryz.prog 3 #[insV a, v] w (TrueB w) := by
  obtain ⟨a0, a1, a2, a3, a4⟩ := a
  have HW := Lib.hid (worksI _ (hv.adds (Gr.new w (.cells #[.int .i64 a0, .int .i64 a1, .int .i64 a2, .int .i64 a3, .int .u32 a4] 25)).adds))
  obtain ⟨ao, cap, rfl, h1, h2, h3⟩ := hb
  have hI : (60 : Int) < (l.length : Int) := by omega
  clear hv hS h1 h2 h3
  go_enter Tryz.func3, Tryz.ntmps3
  go_wp2_with (go_at_call 6; refine HW.out.mono ?_; rintro e w2 ⟨rfl, h1⟩; have H1 := Lib.hid (Adds.trans (Gr.new w _).adds h1); clear h1)
  go_ret
  exact ⟨rfl, H1.out⟩
set_option maxRecDepth 100000 in
set_option maxHeartbeats 8000000 in
theorem ibytes_er_no {n : Nat} (a : In) (ha : OkIn a) (hr : mayI a = false) (v : Value) (l : List UInt8) (hl0 : l.length ≤ 60) (x : In) (m : Nat) (er : Int) (her : er ≠ 0) (hx : readI l = (x, m, er)) (hxi : 0 ≤ x.2.2.2.2 ∧ x.2.2.2.2 < 4294967296) (w : World) (hnw : n ≤ w.heap.size) (hb : Bytes n w v l) (hv : IVars w) : Calls Tryz.prog 3 #[insV a, v] w (TrueB w) := by
  have hmx : Tryz.prog.follows .mixedOrders = true := by kernel_rfl
  have HV := Lib.hid hv
  have HNW := Lib.hid hnw
  have hn := num_ins
  have HRd := Lib.hid (fun (W : World) (h : Adds w W) => read8 v l W (bytes_adds hb h) (hv.adds h).wid)
  have HRP := Lib.hid (fun (W : World) (h : Adds w W) => refReadI_any v l W (bytes_adds hb h))
  have HRB := Lib.hid hb
  rw [hx] at HRd HRP
  have HR := Lib.hid (fun W => refRight_any a ha W)
  rw [hr] at HR
  have HB := Lib.hid (fun (W : World) (_ : Adds w W) => bytes8_no a ha hr W)
  have hE : (er == 0) = false := by simpa using her
  have hq := ins_neq x x
  rw [show eqI x x = true from eqI_iff.2 rfl] at hq
  obtain ⟨x0, x1, x2, x3, x4⟩ := x
  obtain ⟨a0, a1, a2, a3, a4⟩ := a
  have hI : (l.length : Int) ≤ 60 := by omega
  have HI := Lib.hid hI
  obtain ⟨ao, cap, rfl, h1, h2, h3⟩ := id hb
  clear hv hl0 hr hx ha hb h1 h2 h3 hnw hxi her
  go_enter Tryz.func3, Tryz.ntmps3
  go_wp2_with (first
    | (go_at_call 7; refine (HB.out _ (Gr.new w _).adds).mono ?_; rintro e w2 ⟨rfl, h2⟩; have BA := Lib.hid (show BkS 25 w2 w.heap.size [.int .i64 a0, .int .i64 a1, .int .i64 a2, .int .i64 a3, .int .u32 a4] from (BkS.new _ _ _).adds h2); have H2 := Lib.hid (Adds.trans (Gr.new w _).adds h2); clear h2 HB)
    | (go_at_call 8; refine (HRd.out _ H2.out).mono ?_; rintro e w3 ⟨rfl, h3⟩; have BA3 := Lib.hid (BA.out.adds h3); have H3 := Lib.hid (Adds.trans H2.out h3); clear h3 BA HRd)
    | (go_at_call 9; refine (HRP.out _ (Adds.trans H3.out (Gr.new w3 _).adds)).mono ?_; rintro e w5 ⟨rfl, h5⟩; have b7 : BkS 25 w5 w3.heap.size [.int .i64 x0, .int .i64 x1, .int .i64 x2, .int .i64 x3, .int .u32 x4] := (BkS.new _ _ _).adds h5; have ba5 := (BA3.out.adds (Gr.new w3 _).adds).adds h5; have c70 : w5.cell? ⟨w3.heap.size, 0, none⟩ = some (.int .i64 x0) := b7.cell 0; have c71 : w5.cell? ⟨w3.heap.size, 1, none⟩ = some (.int .i64 x1) := b7.cell 1; have c72 : w5.cell? ⟨w3.heap.size, 2, none⟩ = some (.int .i64 x2) := b7.cell 2; have c73 : w5.cell? ⟨w3.heap.size, 3, none⟩ = some (.int .i64 x3) := b7.cell 3; have c74 : w5.cell? ⟨w3.heap.size, 4, none⟩ = some (.int .u32 x4) := b7.cell 4; have ca0 : w5.cell? ⟨w.heap.size, 0, none⟩ = some (.int .i64 a0) := ba5.cell 0; have ca1 : w5.cell? ⟨w.heap.size, 1, none⟩ = some (.int .i64 a1) := ba5.cell 1; have ca2 : w5.cell? ⟨w.heap.size, 2, none⟩ = some (.int .i64 a2) := ba5.cell 2; have ca3 : w5.cell? ⟨w.heap.size, 3, none⟩ = some (.int .i64 a3) := ba5.cell 3; have ca4 : w5.cell? ⟨w.heap.size, 4, none⟩ = some (.int .u32 a4) := ba5.cell 4; have l7 := b7.lt; have la := ba5.lt; have BA5 := Lib.hid ba5; have B75 := Lib.hid b7; have H5 := Lib.hid (Adds.trans H3.out (Adds.trans (Gr.new w3 _).adds h5)); clear h5 b7 ba5 BA3)
    | (go_at_call 10; refine (hn _ _).mono ?_; rintro e w10 ⟨rfl, rfl⟩)
    | (go_at_call 11; refine (HR.out _).mono ?_; rintro e w7 ⟨rfl, h7⟩; have H7 := Lib.hid (Adds.trans (Adds.trans H5.out (Gr.new w5 _).adds) h7); clear h7; clear c70 c71 c72 c73 c74 ca0 ca1 ca2 ca3 ca4 l7 la)
    | (go_at_call 6; refine (worksI _ (HV.out.adds H7.out)).mono ?_; rintro e w9 ⟨rfl, h9⟩; have H9 := Lib.hid (Adds.trans H7.out h9); clear h9))
  go_ret
  exact ⟨rfl, H9.out⟩
set_option maxRecDepth 100000 in
set_option maxHeartbeats 8000000 in
theorem ibytes_er_yes {n : Nat} (a : In) (ha : OkIn a) (hr : mayI a = true) (v : Value) (l : List UInt8) (hl0 : l.length ≤ 60) (x : In) (m : Nat) (er : Int) (her : er ≠ 0) (hx : readI l = (x, m, er)) (hxi : 0 ≤ x.2.2.2.2 ∧ x.2.2.2.2 < 4294967296) (w : World) (hnw : n ≤ w.heap.size) (hb : Bytes n w v l) (hv : IVars w) : Calls Tryz.prog 3 #[insV a, v] w (TrueB w) := by
  have hmx : Tryz.prog.follows .mixedOrders = true := by kernel_rfl
  have HV := Lib.hid hv
  have HNW := Lib.hid hnw
  have hn := num_ins
  have HRd := Lib.hid (fun (W : World) (h : Adds w W) => read8 v l W (bytes_adds hb h) (hv.adds h).wid)
  have HRP := Lib.hid (fun (W : World) (h : Adds w W) => refReadI_any v l W (bytes_adds hb h))
  have HRB := Lib.hid hb
  rw [hx] at HRd HRP
  have HR := Lib.hid (fun W => refRight_any a ha W)
  rw [hr] at HR
  obtain ⟨L, hL⟩ : ∃ L, bytesI a = L := ⟨_, rfl⟩
  have hLs : L.length ≤ 9 := by rw [← hL]; exact bytesI_short hr
  have hR2 : ∀ (u : Value) (W : World), Adds w W → Bytes W.heap.size W u (L ++ l) → Calls Tryz.prog 8 #[u] W fun e W' => e = .returned (.tuple #[insV a, .int .i64 (L.length : Nat), .int .i64 0]) ∧ Adds W W' := fun u W h hu => by
    have h0 := read8 u _ W hu (hv.adds h).wid
    rw [← hL, readI_bytes hr, hL] at h0
    exact h0
  have HB := Lib.hid (fun (W : World) (h : Adds w W) => bytes8_yes a ha hr W (hv.adds h).wid)
  have hRB2 := fun W => refBytes_may hr W
  rw [hL] at HB hRB2
  have HR2 := Lib.hid hR2
  have HRB2 := Lib.hid hRB2
  have HLs := Lib.hid hLs
  have hqe := ins_eql a a
  rw [show eqI a a = true from eqI_iff.2 rfl] at hqe
  have hqt := beqS_yes8 (str L)
  have HWk := Lib.hid (fun (W : World) (h : Adds w W) => worksI W (hv.adds h))
  clear hR2 hRB2 hL hLs
  have hE : (er == 0) = false := by simpa using her
  have hq := ins_neq x x
  rw [show eqI x x = true from eqI_iff.2 rfl] at hq
  obtain ⟨x0, x1, x2, x3, x4⟩ := x
  obtain ⟨a0, a1, a2, a3, a4⟩ := a
  have hI : (l.length : Int) ≤ 60 := by omega
  have HI := Lib.hid hI
  obtain ⟨ao, cap, rfl, h1, h2, h3⟩ := id hb
  clear hv hl0 hr hx ha hb h1 h2 h3 hnw hxi her
  go_enter Tryz.func3, Tryz.ntmps3
  go_wp2_with (first
    | (go_at_call 7; refine (HB.out _ (Gr.new w _).adds).mono ?_; rintro e w2 ⟨vl, rfl, o2, h2⟩; have O2 := Lib.hid o2; have BA := Lib.hid (show BkS 25 w2 w.heap.size [.int .i64 a0, .int .i64 a1, .int .i64 a2, .int .i64 a3, .int .u32 a4] from (BkS.new _ _ _).adds h2); have H2 := Lib.hid (Adds.trans (Gr.new w _).adds h2); clear h2 o2 HB)
    | (go_at_call 8; refine (HRd.out _ H2.out).mono ?_; rintro e w3 ⟨rfl, h3⟩; have BA3 := Lib.hid (BA.out.adds h3); have H3 := Lib.hid (Adds.trans H2.out h3); have O3 := Lib.hid (O2.out.adds h3); clear h3 BA HRd)
    | (go_at_call 9; refine (HRP.out _ (Adds.trans H3.out (Gr.new w3 _).adds)).mono ?_; rintro e w5 ⟨rfl, h5⟩; have b7 : BkS 25 w5 w3.heap.size [.int .i64 x0, .int .i64 x1, .int .i64 x2, .int .i64 x3, .int .u32 x4] := (BkS.new _ _ _).adds h5; have ba5 := (BA3.out.adds (Gr.new w3 _).adds).adds h5; have c70 : w5.cell? ⟨w3.heap.size, 0, none⟩ = some (.int .i64 x0) := b7.cell 0; have c71 : w5.cell? ⟨w3.heap.size, 1, none⟩ = some (.int .i64 x1) := b7.cell 1; have c72 : w5.cell? ⟨w3.heap.size, 2, none⟩ = some (.int .i64 x2) := b7.cell 2; have c73 : w5.cell? ⟨w3.heap.size, 3, none⟩ = some (.int .i64 x3) := b7.cell 3; have c74 : w5.cell? ⟨w3.heap.size, 4, none⟩ = some (.int .u32 x4) := b7.cell 4; have ca0 : w5.cell? ⟨w.heap.size, 0, none⟩ = some (.int .i64 a0) := ba5.cell 0; have ca1 : w5.cell? ⟨w.heap.size, 1, none⟩ = some (.int .i64 a1) := ba5.cell 1; have ca2 : w5.cell? ⟨w.heap.size, 2, none⟩ = some (.int .i64 a2) := ba5.cell 2; have ca3 : w5.cell? ⟨w.heap.size, 3, none⟩ = some (.int .i64 a3) := ba5.cell 3; have ca4 : w5.cell? ⟨w.heap.size, 4, none⟩ = some (.int .u32 a4) := ba5.cell 4; have l7 := b7.lt; have la := ba5.lt; have BA5 := Lib.hid ba5; have B75 := Lib.hid b7; have H5 := Lib.hid (Adds.trans H3.out (Adds.trans (Gr.new w3 _).adds h5)); have O5 := Lib.hid (O3.out.adds (Adds.trans (Gr.new w3 _).adds h5)); clear h5 b7 ba5 BA3)
    | (go_at_call 10; refine (hn _ _).mono ?_; rintro e w10 ⟨rfl, rfl⟩)
    | (go_at_call 11; refine (HR.out _).mono ?_; rintro e w7 ⟨rfl, h7⟩; have BA7 := Lib.hid ((BA5.out.adds (Gr.new w5 _).adds).adds h7); have H7 := Lib.hid (Adds.trans (Adds.trans H5.out (Gr.new w5 _).adds) h7); have O7 := Lib.hid ((O5.out.adds (Gr.new w5 _).adds).adds h7); have HE := Lib.hid (own_empty w7); have A0 := Lib.hid (Gr.new w7 (.cells #[] 5)).adds; clear h7; clear c70 c71 c72 c73 c74 ca0 ca1 ca2 ca3 ca4 l7 la; have ca0 : w7.cell? ⟨w.heap.size, 0, none⟩ = some (.int .i64 a0) := BA7.out.cell 0; have ca1 : w7.cell? ⟨w.heap.size, 1, none⟩ = some (.int .i64 a1) := BA7.out.cell 1; have ca2 : w7.cell? ⟨w.heap.size, 2, none⟩ = some (.int .i64 a2) := BA7.out.cell 2; have ca3 : w7.cell? ⟨w.heap.size, 3, none⟩ = some (.int .i64 a3) := BA7.out.cell 3; have ca4 : w7.cell? ⟨w.heap.size, 4, none⟩ = some (.int .u32 a4) := BA7.out.cell 4)
    | (at_builtin; refine wp_append_bytes rfl (.tmp 87) (.tmp 88) rfl w7.heap.size _ [] rfl (by exact HE.out) _ L _ rfl (by exact (O7.out.adds A0.out).bytes) (by have := HLs.out; simp; omega) (by simp) ?_; intro v8 w8 o8 b8; have O8 := Lib.hid o8; have B8 := Lib.hid (Below.trans A0.out b8); clear o8 b8)
    | (at_builtin; refine wp_append_bytes rfl (.tmp 89) (.tmp 90) rfl w7.heap.size _ ([] ++ L) rfl (by exact O8.out) _ l _ rfl (by exact bytes_adds HRB.out (Adds.trans H7.out B8.out)) (by have := HLs.out; have := HI.out; rw [List.nil_append]; omega) (by exact B8.out.size) ?_; intro v9 w9 o9 b9; have O9 := Lib.hid o9; have B9 := Lib.hid (Below.trans B8.out b9); clear o9 b9)
    | (go_at_call 8; refine (HR2.out _ _ (Adds.trans H7.out B9.out) (by exact O9.out.bytes)).mono ?_; rintro e w10 ⟨rfl, h10⟩; have H10 := Lib.hid (Adds.trans B9.out h10); clear h10))
  obtain ⟨k11, hk11⟩ : ∃ k, w10.heap.size = k := ⟨_, rfl⟩
  obtain ⟨w11, hw11⟩ : ∃ w11, w10.alloc (.cells #[.int .i64 a0, .int .i64 a1, .int .i64 a2, .int .i64 a3, .int .u32 a4] 25) = w11 := ⟨_, rfl⟩
  have A11 := Lib.hid (show Adds w10 w11 by rw [← hw11]; exact (Gr.new _ _).adds)
  have B11 := Lib.hid (show BkS 25 w11 k11 [.int .i64 a0, .int .i64 a1, .int .i64 a2, .int .i64 a3, .int .u32 a4] by rw [← hw11, ← hk11]; exact BkS.new _ _ _)
  have A7 := Lib.hid (Adds.trans H10.out A11.out)
  have BA11 := Lib.hid (BA7.out.adds A7.out)
  have O11 := Lib.hid (O7.out.adds A7.out)
  have H11 := Lib.hid (Adds.trans H7.out A7.out)
  obtain ⟨k0, hk0⟩ : ∃ k, w.heap.size = k := ⟨_, rfl⟩
  rw [hk0] at BA11
  rw [hk11]
  first | rw [hw11] | skip
  rw [hk0]
  obtain ⟨lv, lc, rfl, _, _, _⟩ := id O11.out.bytes
  clear hw11 hk11 hk0 BA7 A11 ca0 ca1 ca2 ca3 ca4 O9 O8 B9 B8 HE A0 H10
  have HD := Lib.hid (show ∀ w', Adds w11.drew w' → (w'.cell? ⟨k0, 0, none⟩ = some (.int .i64 a0) ∧ w'.cell? ⟨k0, 1, none⟩ = some (.int .i64 a1) ∧ w'.cell? ⟨k0, 2, none⟩ = some (.int .i64 a2) ∧ w'.cell? ⟨k0, 3, none⟩ = some (.int .i64 a3) ∧ w'.cell? ⟨k0, 4, none⟩ = some (.int .u32 a4)) ∧ w'.cell? ⟨k11, 0, none⟩ = some (.int .i64 a0) ∧ w'.cell? ⟨k11, 1, none⟩ = some (.int .i64 a1) ∧ w'.cell? ⟨k11, 2, none⟩ = some (.int .i64 a2) ∧ w'.cell? ⟨k11, 3, none⟩ = some (.int .i64 a3) ∧ w'.cell? ⟨k11, 4, none⟩ = some (.int .u32 a4) from fun w' h =>
    ⟨⟨(BA11.out.adds (Adds.trans (Adds.drew w11) h)).cell 0, (BA11.out.adds (Adds.trans (Adds.drew w11) h)).cell 1, (BA11.out.adds (Adds.trans (Adds.drew w11) h)).cell 2, (BA11.out.adds (Adds.trans (Adds.drew w11) h)).cell 3, (BA11.out.adds (Adds.trans (Adds.drew w11) h)).cell 4⟩, (B11.out.adds (Adds.trans (Adds.drew w11) h)).cell 0, (B11.out.adds (Adds.trans (Adds.drew w11) h)).cell 1, (B11.out.adds (Adds.trans (Adds.drew w11) h)).cell 2, (B11.out.adds (Adds.trans (Adds.drew w11) h)).cell 3, (B11.out.adds (Adds.trans (Adds.drew w11) h)).cell 4⟩)
  have HN0 := Lib.hid (show ∀ w', Adds w11.drew w' → Calls Tryz.prog 10 #[.int .i64 0] w' (fun e w'' => e = .returned (.int .i64 0) ∧ Adds w' w'') from fun w' _ => (num_ins 0 w').mono fun _ _ ⟨h1, h2⟩ => ⟨h1, h2 ▸ Adds.refl w'⟩)
  have HB0 := Lib.hid (show ∀ w', Adds w11.drew w' → Calls Tryz.prog 12 #[.agg #[.int .i64 a0, .int .i64 a1, .int .i64 a2, .int .i64 a3, .int .u32 a4]] w' (fun e w'' => ∃ u, e = .returned u ∧ Bytes w''.heap.size w'' u L ∧ Adds w' w'') from fun w' _ => (HRB2.out w').mono fun _ _ ⟨u, h1, h2, h3⟩ => ⟨u, h1, h2.bytes, h3⟩)
  have HS0 := Lib.hid (show ∀ w', Adds w11.drew w' → (convert 26 9 (.slice lv L.length lc)).run Tryz.prog w' = .ok (.string (str L)) w' from fun w' h => strAt (O11.out.adds (Adds.trans (Adds.drew w11) h)).bytes)
  have HW0 := Lib.hid (show ∀ w', Adds w11.drew w' → Calls Tryz.prog 6 #[] w' (fun e w'' => e = .returned (.bool true) ∧ Adds w' w'') from fun w' h => HWk.out w' (Adds.trans H11.out (Adds.trans (Adds.drew w11) h)))
  clear hq hn hI HR2 HRB2 HR HV HWk HRB HRP HLs
  refine wp_region_loose [99] (fun _ u w => Bytes w.heap.size w u L) Adds (by kernel_rfl) (by kernel_rfl) (by simp []) Adds.refl (fun _ _ _ h k => Adds.trans h k) (fun _ _ _ _ h k => bytes_adds k h) ?_
  repeat (refine wpL_step (fun K hK => ?_); first
    | (refine stepL_ex rfl rfl rfl Adds.refl (fun w' hw' => rfl) ?_; go_simp; refine hK _ ?_; clear hK K)
    | (refine stepL_ex (v := .agg #[.int .i64 a0, .int .i64 a1, .int .i64 a2, .int .i64 a3, .int .u32 a4]) rfl rfl rfl Adds.refl ?_ ?_; (· (intro w' hw'; clear hK; have hc := HD.out w' hw'; go_simp)); go_simp; refine hK _ ?_; clear hK K)
    | (refine stepL_ex (v := .string (str L)) rfl rfl rfl Adds.refl ?_ ?_; (· (intro w' hw'; clear hK; have hS := HS0.out w' hw'; go_simp)); go_simp; refine hK _ ?_; clear hK K)
    | (refine stepL_key (f := 12) (args := #[.agg #[.int .i64 a0, .int .i64 a1, .int .i64 a2, .int .i64 a3, .int .u32 a4]]) 99 rfl rfl rfl rfl ?_ (fun w' hw' => HB0.out w' hw') ?_; (· (intro w'; clear hK; go_simp)); refine hK _ ?_; clear hK K)
    | (refine stepL_ex1 (v := .string (str L)) rfl rfl Adds.refl ?_ ?_; (· (intro w' u hw' hu; refine ⟨rfl, ?_⟩; clear hK; have hS := strAt hu; go_simp)); go_simp; refine hK _ ?_; clear hK K)
    | (refine stepL_ex (v := .bool true) rfl rfl rfl Adds.refl ?_ ?_; (· (intro w' hw'; clear hK; go_simp)); go_simp; refine hK _ ?_; clear hK K)
    | (refine stepL_ex (v := .int .i64 0) rfl rfl rfl Adds.refl ?_ ?_; (· (intro w' hw'; clear hK; go_simp)); go_simp; refine hK _ ?_; clear hK K)
    | (refine stepL_ex (v := .int .i64 (L.length : Nat)) rfl rfl rfl Adds.refl ?_ ?_; (· (intro w' hw'; clear hK; go_simp)); go_simp; refine hK _ ?_; clear hK K)
    | (refine stepL_call (f := 10) (args := #[.int .i64 0]) rfl rfl rfl ?_ (fun w' hw' => HN0.out w' hw') ?_; (· (intro w'; clear hK; go_simp)); go_simp; refine hK _ ?_; clear hK K)
    | (refine stepL_call (f := 6) (args := #[]) rfl rfl rfl ?_ (fun w' hw' => HW0.out w' hw') ?_; (· (intro w'; clear hK; go_simp)); go_simp; refine hK _ ?_; clear hK K))
  refine wpL_nil ?_
  intro w12 a12
  simp only [forL]
  intro u hu
  have H12 := Lib.hid (Adds.trans H11.out (Adds.trans (Adds.drew w11) a12))
  clear a12
  go_wp2
  go_ret
  exact ⟨rfl, H12.out⟩
set_option maxRecDepth 100000 in
set_option maxHeartbeats 8000000 in
theorem ibytes_ok_no {n : Nat} (a : In) (ha : OkIn a) (hr : mayI a = false) (v : Value) (l : List UInt8) (hl0 : l.length ≤ 60) (x : In) (m : Nat) (hx : readI l = (x, m, 0)) (hxi : 0 ≤ x.2.2.2.2 ∧ x.2.2.2.2 < 4294967296) (hok : (0 : Int) = 0 → mayI x = true ∧ bytesI x = l.take m ∧ m ≤ l.length ∧ 0 < m ∧ (Lit.int .i64 x.1).wf = true) (w : World) (hnw : n ≤ w.heap.size) (hb : Bytes n w v l) (hv : IVars w) : Calls Tryz.prog 3 #[insV a, v] w (TrueB w) := by
  have hmx : Tryz.prog.follows .mixedOrders = true := by kernel_rfl
  have HV := Lib.hid hv
  have HNW := Lib.hid hnw
  have hn := num_ins
  have HRd := Lib.hid (fun (W : World) (h : Adds w W) => read8 v l W (bytes_adds hb h) (hv.adds h).wid)
  have HRP := Lib.hid (fun (W : World) (h : Adds w W) => refReadI_any v l W (bytes_adds hb h))
  have HRB := Lib.hid hb
  rw [hx] at HRd HRP
  have HR := Lib.hid (fun W => refRight_any a ha W)
  rw [hr] at HR
  have HB := Lib.hid (fun (W : World) (_ : Adds w W) => bytes8_no a ha hr W)
  obtain ⟨hxm, hxb, hxl, hxp, hxw⟩ := hok rfl
  have HBx := Lib.hid (fun (W : World) (h : Adds w W) => bytes8_yes x ⟨hxw, hxi⟩ hxm W (hv.adds h).wid)
  rw [hxb] at HBx
  have HXL := Lib.hid hxl
  have hqx := beqS_yes8 (str (l.take m))
  have hq := ins_neq x x
  rw [show eqI x x = true from eqI_iff.2 rfl] at hq
  obtain ⟨x0, x1, x2, x3, x4⟩ := x
  obtain ⟨a0, a1, a2, a3, a4⟩ := a
  have hI : (l.length : Int) ≤ 60 := by omega
  have HI := Lib.hid hI
  obtain ⟨ao, cap, rfl, h1, h2, h3⟩ := id hb
  clear hv hl0 hr hx ha hb h1 h2 h3 hnw hxi hok hxm hxb hxl hxp hxw
  go_enter Tryz.func3, Tryz.ntmps3
  go_wp2_with (first
    | (go_at_call 7; refine (HB.out _ (Gr.new w _).adds).mono ?_; rintro e w2 ⟨rfl, h2⟩; have BA := Lib.hid (show BkS 25 w2 w.heap.size [.int .i64 a0, .int .i64 a1, .int .i64 a2, .int .i64 a3, .int .u32 a4] from (BkS.new _ _ _).adds h2); have H2 := Lib.hid (Adds.trans (Gr.new w _).adds h2); clear h2 HB)
    | (go_at_call 8; refine (HRd.out _ H2.out).mono ?_; rintro e w3 ⟨rfl, h3⟩; have BA3 := Lib.hid (BA.out.adds h3); have H3 := Lib.hid (Adds.trans H2.out h3); clear h3 BA HRd)
    | (go_at_call 9; refine (HRP.out _ (Adds.trans H3.out (Gr.new w3 _).adds)).mono ?_; rintro e w5 ⟨rfl, h5⟩; have b7 : BkS 25 w5 w3.heap.size [.int .i64 x0, .int .i64 x1, .int .i64 x2, .int .i64 x3, .int .u32 x4] := (BkS.new _ _ _).adds h5; have ba5 := (BA3.out.adds (Gr.new w3 _).adds).adds h5; have c70 : w5.cell? ⟨w3.heap.size, 0, none⟩ = some (.int .i64 x0) := b7.cell 0; have c71 : w5.cell? ⟨w3.heap.size, 1, none⟩ = some (.int .i64 x1) := b7.cell 1; have c72 : w5.cell? ⟨w3.heap.size, 2, none⟩ = some (.int .i64 x2) := b7.cell 2; have c73 : w5.cell? ⟨w3.heap.size, 3, none⟩ = some (.int .i64 x3) := b7.cell 3; have c74 : w5.cell? ⟨w3.heap.size, 4, none⟩ = some (.int .u32 x4) := b7.cell 4; have ca0 : w5.cell? ⟨w.heap.size, 0, none⟩ = some (.int .i64 a0) := ba5.cell 0; have ca1 : w5.cell? ⟨w.heap.size, 1, none⟩ = some (.int .i64 a1) := ba5.cell 1; have ca2 : w5.cell? ⟨w.heap.size, 2, none⟩ = some (.int .i64 a2) := ba5.cell 2; have ca3 : w5.cell? ⟨w.heap.size, 3, none⟩ = some (.int .i64 a3) := ba5.cell 3; have ca4 : w5.cell? ⟨w.heap.size, 4, none⟩ = some (.int .u32 a4) := ba5.cell 4; have l7 := b7.lt; have la := ba5.lt; have BA5 := Lib.hid ba5; have B75 := Lib.hid b7; have H5 := Lib.hid (Adds.trans H3.out (Adds.trans (Gr.new w3 _).adds h5)); clear h5 b7 ba5 BA3)
    | (go_at_call 10; refine (hn _ _).mono ?_; rintro e w10 ⟨rfl, rfl⟩)
    | (go_at_call 7; refine (HBx.out _ (Adds.trans H5.out (Gr.new w5 _).adds)).mono ?_; rintro e w6 ⟨vx, rfl, o6, h6⟩; have P6 := Lib.hid o6.bytes; have BA6 := Lib.hid ((BA5.out.adds (Gr.new w5 _).adds).adds h6); have H6 := Lib.hid (Adds.trans H5.out (Adds.trans (Gr.new w5 _).adds h6)); clear h6 o6 HBx BA5 B75 l7 la; clear c70 c71 c72 c73 c74 ca0 ca1 ca2 ca3 ca4))
  have HX0 := Lib.hid (show ∀ w', Adds w6.drew w' → (convert 26 9 vx).run Tryz.prog w' = .ok (.string (str (l.take m))) w' from fun w' h => strAt (P6.out.here.below (Adds.trans (Adds.drew w6) h)).here)
  have HC0 := Lib.hid (show ∀ w', Adds w6.drew w' → (convert 26 9 (cutT ao cap m)).run Tryz.prog w' = .ok (.string (str (l.take m))) w' from fun w' h => strAt (bytes_to (bytes_adds HRB.out (Adds.trans H6.out (Adds.trans (Adds.drew w6) h))) m HXL.out).here)
  have hsl := fun W => slice_to8 ao l.length cap m (by obtain ⟨_, _, e, k1, _, _⟩ := HRB.out; simp only [Value.slice.injEq] at e; have := HXL.out; omega) W
  have HN0 := Lib.hid (show ∀ w', Adds w6.drew w' → Calls Tryz.prog 10 #[.int .i64 0] w' (fun e w'' => e = .returned (.int .i64 0) ∧ Adds w' w'') from fun w' _ => (num_ins 0 w').mono fun _ _ ⟨h1, h2⟩ => ⟨h1, h2 ▸ Adds.refl w'⟩)
  obtain ⟨ct, hct⟩ : ∃ ct, cutT ao cap m = ct := ⟨_, rfl⟩
  rw [hct] at HC0
  simp only [hct] at hsl
  have HNsv := Lib.hid hn
  clear hct hn
  refine wp_region_loose [] (fun _ _ _ => True) Adds (by kernel_rfl) (by kernel_rfl) (by simp []) Adds.refl (fun _ _ _ h k => Adds.trans h k) (fun _ _ _ _ _ _ => trivial) ?_
  repeat (refine wpL_step (fun K hK => ?_); first
    | (refine stepL_ex rfl rfl rfl Adds.refl (fun w' hw' => rfl) ?_; go_simp; refine hK _ ?_; clear hK K)
    | (refine stepL_ex (v := ct) rfl rfl rfl Adds.refl ?_ ?_; (· (intro w' hw'; clear hK; go_simp)); go_simp; refine hK _ ?_; clear hK K)
    | (refine stepL_ex (v := .string (str (l.take m))) rfl rfl rfl Adds.refl ?_ ?_; (· (intro w' hw'; clear hK; have hS := HX0.out w' hw'; have hS2 := HC0.out w' hw'; go_simp)); go_simp; refine hK _ ?_; clear hK K)
    | (refine stepL_ex (v := .bool false) rfl rfl rfl Adds.refl ?_ ?_; (· (intro w' hw'; clear hK; go_simp)); go_simp; refine hK _ ?_; clear hK K)
    | (refine stepL_call (f := 10) (args := #[.int .i64 0]) rfl rfl rfl ?_ (fun w' hw' => HN0.out w' hw') ?_; (· (intro w'; clear hK; go_simp)); go_simp; refine hK _ ?_; clear hK K))
  refine wpL_nil ?_
  intro wc ac
  simp only [forL]
  have A6c := Lib.hid (Adds.trans (Adds.drew w6) ac)
  have HC := Lib.hid (Adds.trans H6.out A6c.out)
  have BAc := Lib.hid (BA6.out.adds A6c.out)
  have ca0 : wc.cell? ⟨w.heap.size, 0, none⟩ = some (.int .i64 a0) := BAc.out.cell 0
  have ca1 : wc.cell? ⟨w.heap.size, 1, none⟩ = some (.int .i64 a1) := BAc.out.cell 1
  have ca2 : wc.cell? ⟨w.heap.size, 2, none⟩ = some (.int .i64 a2) := BAc.out.cell 2
  have ca3 : wc.cell? ⟨w.heap.size, 3, none⟩ = some (.int .i64 a3) := BAc.out.cell 3
  have ca4 : wc.cell? ⟨w.heap.size, 4, none⟩ = some (.int .u32 a4) := BAc.out.cell 4
  have hn := HNsv.out
  clear ac HX0 HC0 hsl HN0 BA6 H6
  go_wp2_with (first
    | (go_at_call 11; refine (HR.out _).mono ?_; rintro e w7 ⟨rfl, h7⟩; have H7 := Lib.hid (Adds.trans HC.out h7); clear h7; clear ca0 ca1 ca2 ca3 ca4)
    | (go_at_call 6; refine (worksI _ (HV.out.adds H7.out)).mono ?_; rintro e w9 ⟨rfl, h9⟩; have H9 := Lib.hid (Adds.trans H7.out h9); clear h9)
    | (go_at_call 10; refine (hn _ _).mono ?_; rintro e w10 ⟨rfl, rfl⟩))
  go_ret
  exact ⟨rfl, H9.out⟩
set_option maxRecDepth 100000 in
set_option maxHeartbeats 8000000 in
theorem ibytes_ok_yes {n : Nat} (a : In) (ha : OkIn a) (hr : mayI a = true) (v : Value) (l : List UInt8) (hl0 : l.length ≤ 60) (x : In) (m : Nat) (hx : readI l = (x, m, 0)) (hxi : 0 ≤ x.2.2.2.2 ∧ x.2.2.2.2 < 4294967296) (hok : (0 : Int) = 0 → mayI x = true ∧ bytesI x = l.take m ∧ m ≤ l.length ∧ 0 < m ∧ (Lit.int .i64 x.1).wf = true) (w : World) (hnw : n ≤ w.heap.size) (hb : Bytes n w v l) (hv : IVars w) : Calls Tryz.prog 3 #[insV a, v] w (TrueB w) := by
  have hmx : Tryz.prog.follows .mixedOrders = true := by kernel_rfl
  have HV := Lib.hid hv
  have HNW := Lib.hid hnw
  have hn := num_ins
  have HRd := Lib.hid (fun (W : World) (h : Adds w W) => read8 v l W (bytes_adds hb h) (hv.adds h).wid)
  have HRP := Lib.hid (fun (W : World) (h : Adds w W) => refReadI_any v l W (bytes_adds hb h))
  have HRB := Lib.hid hb
  rw [hx] at HRd HRP
  have HR := Lib.hid (fun W => refRight_any a ha W)
  rw [hr] at HR
  obtain ⟨L, hL⟩ : ∃ L, bytesI a = L := ⟨_, rfl⟩
  have hLs : L.length ≤ 9 := by rw [← hL]; exact bytesI_short hr
  have hR2 : ∀ (u : Value) (W : World), Adds w W → Bytes W.heap.size W u (L ++ l) → Calls Tryz.prog 8 #[u] W fun e W' => e = .returned (.tuple #[insV a, .int .i64 (L.length : Nat), .int .i64 0]) ∧ Adds W W' := fun u W h hu => by
    have h0 := read8 u _ W hu (hv.adds h).wid
    rw [← hL, readI_bytes hr, hL] at h0
    exact h0
  have HB := Lib.hid (fun (W : World) (h : Adds w W) => bytes8_yes a ha hr W (hv.adds h).wid)
  have hRB2 := fun W => refBytes_may hr W
  rw [hL] at HB hRB2
  have HR2 := Lib.hid hR2
  have HRB2 := Lib.hid hRB2
  have HLs := Lib.hid hLs
  have hqe := ins_eql a a
  rw [show eqI a a = true from eqI_iff.2 rfl] at hqe
  have hqt := beqS_yes8 (str L)
  have HWk := Lib.hid (fun (W : World) (h : Adds w W) => worksI W (hv.adds h))
  clear hR2 hRB2 hL hLs
  obtain ⟨hxm, hxb, hxl, hxp, hxw⟩ := hok rfl
  have HBx := Lib.hid (fun (W : World) (h : Adds w W) => bytes8_yes x ⟨hxw, hxi⟩ hxm W (hv.adds h).wid)
  rw [hxb] at HBx
  have HXL := Lib.hid hxl
  have hqx := beqS_yes8 (str (l.take m))
  have hq := ins_neq x x
  rw [show eqI x x = true from eqI_iff.2 rfl] at hq
  obtain ⟨x0, x1, x2, x3, x4⟩ := x
  obtain ⟨a0, a1, a2, a3, a4⟩ := a
  have hI : (l.length : Int) ≤ 60 := by omega
  have HI := Lib.hid hI
  obtain ⟨ao, cap, rfl, h1, h2, h3⟩ := id hb
  clear hv hl0 hr hx ha hb h1 h2 h3 hnw hxi hok hxm hxb hxl hxp hxw
  go_enter Tryz.func3, Tryz.ntmps3
  go_wp2_with (first
    | (go_at_call 7; refine (HB.out _ (Gr.new w _).adds).mono ?_; rintro e w2 ⟨vl, rfl, o2, h2⟩; have O2 := Lib.hid o2; have BA := Lib.hid (show BkS 25 w2 w.heap.size [.int .i64 a0, .int .i64 a1, .int .i64 a2, .int .i64 a3, .int .u32 a4] from (BkS.new _ _ _).adds h2); have H2 := Lib.hid (Adds.trans (Gr.new w _).adds h2); clear h2 o2 HB)
    | (go_at_call 8; refine (HRd.out _ H2.out).mono ?_; rintro e w3 ⟨rfl, h3⟩; have BA3 := Lib.hid (BA.out.adds h3); have H3 := Lib.hid (Adds.trans H2.out h3); have O3 := Lib.hid (O2.out.adds h3); clear h3 BA HRd)
    | (go_at_call 9; refine (HRP.out _ (Adds.trans H3.out (Gr.new w3 _).adds)).mono ?_; rintro e w5 ⟨rfl, h5⟩; have b7 : BkS 25 w5 w3.heap.size [.int .i64 x0, .int .i64 x1, .int .i64 x2, .int .i64 x3, .int .u32 x4] := (BkS.new _ _ _).adds h5; have ba5 := (BA3.out.adds (Gr.new w3 _).adds).adds h5; have c70 : w5.cell? ⟨w3.heap.size, 0, none⟩ = some (.int .i64 x0) := b7.cell 0; have c71 : w5.cell? ⟨w3.heap.size, 1, none⟩ = some (.int .i64 x1) := b7.cell 1; have c72 : w5.cell? ⟨w3.heap.size, 2, none⟩ = some (.int .i64 x2) := b7.cell 2; have c73 : w5.cell? ⟨w3.heap.size, 3, none⟩ = some (.int .i64 x3) := b7.cell 3; have c74 : w5.cell? ⟨w3.heap.size, 4, none⟩ = some (.int .u32 x4) := b7.cell 4; have ca0 : w5.cell? ⟨w.heap.size, 0, none⟩ = some (.int .i64 a0) := ba5.cell 0; have ca1 : w5.cell? ⟨w.heap.size, 1, none⟩ = some (.int .i64 a1) := ba5.cell 1; have ca2 : w5.cell? ⟨w.heap.size, 2, none⟩ = some (.int .i64 a2) := ba5.cell 2; have ca3 : w5.cell? ⟨w.heap.size, 3, none⟩ = some (.int .i64 a3) := ba5.cell 3; have ca4 : w5.cell? ⟨w.heap.size, 4, none⟩ = some (.int .u32 a4) := ba5.cell 4; have l7 := b7.lt; have la := ba5.lt; have BA5 := Lib.hid ba5; have B75 := Lib.hid b7; have H5 := Lib.hid (Adds.trans H3.out (Adds.trans (Gr.new w3 _).adds h5)); have O5 := Lib.hid (O3.out.adds (Adds.trans (Gr.new w3 _).adds h5)); clear h5 b7 ba5 BA3)
    | (go_at_call 10; refine (hn _ _).mono ?_; rintro e w10 ⟨rfl, rfl⟩)
    | (go_at_call 7; refine (HBx.out _ (Adds.trans H5.out (Gr.new w5 _).adds)).mono ?_; rintro e w6 ⟨vx, rfl, o6, h6⟩; have P6 := Lib.hid o6.bytes; have BA6 := Lib.hid ((BA5.out.adds (Gr.new w5 _).adds).adds h6); have H6 := Lib.hid (Adds.trans H5.out (Adds.trans (Gr.new w5 _).adds h6)); have O6 := Lib.hid (O5.out.adds (Adds.trans (Gr.new w5 _).adds h6)); clear h6 o6 HBx BA5 B75 l7 la; clear c70 c71 c72 c73 c74 ca0 ca1 ca2 ca3 ca4))
  have HX0 := Lib.hid (show ∀ w', Adds w6.drew w' → (convert 26 9 vx).run Tryz.prog w' = .ok (.string (str (l.take m))) w' from fun w' h => strAt (P6.out.here.below (Adds.trans (Adds.drew w6) h)).here)
  have HC0 := Lib.hid (show ∀ w', Adds w6.drew w' → (convert 26 9 (cutT ao cap m)).run Tryz.prog w' = .ok (.string (str (l.take m))) w' from fun w' h => strAt (bytes_to (bytes_adds HRB.out (Adds.trans H6.out (Adds.trans (Adds.drew w6) h))) m HXL.out).here)
  have hsl := fun W => slice_to8 ao l.length cap m (by obtain ⟨_, _, e, k1, _, _⟩ := HRB.out; simp only [Value.slice.injEq] at e; have := HXL.out; omega) W
  have HN0 := Lib.hid (show ∀ w', Adds w6.drew w' → Calls Tryz.prog 10 #[.int .i64 0] w' (fun e w'' => e = .returned (.int .i64 0) ∧ Adds w' w'') from fun w' _ => (num_ins 0 w').mono fun _ _ ⟨h1, h2⟩ => ⟨h1, h2 ▸ Adds.refl w'⟩)
  obtain ⟨ct, hct⟩ : ∃ ct, cutT ao cap m = ct := ⟨_, rfl⟩
  rw [hct] at HC0
  simp only [hct] at hsl
  have HNsv := Lib.hid hn
  clear hct hn
  refine wp_region_loose [] (fun _ _ _ => True) Adds (by kernel_rfl) (by kernel_rfl) (by simp []) Adds.refl (fun _ _ _ h k => Adds.trans h k) (fun _ _ _ _ _ _ => trivial) ?_
  repeat (refine wpL_step (fun K hK => ?_); first
    | (refine stepL_ex rfl rfl rfl Adds.refl (fun w' hw' => rfl) ?_; go_simp; refine hK _ ?_; clear hK K)
    | (refine stepL_ex (v := ct) rfl rfl rfl Adds.refl ?_ ?_; (· (intro w' hw'; clear hK; go_simp)); go_simp; refine hK _ ?_; clear hK K)
    | (refine stepL_ex (v := .string (str (l.take m))) rfl rfl rfl Adds.refl ?_ ?_; (· (intro w' hw'; clear hK; have hS := HX0.out w' hw'; have hS2 := HC0.out w' hw'; go_simp)); go_simp; refine hK _ ?_; clear hK K)
    | (refine stepL_ex (v := .bool false) rfl rfl rfl Adds.refl ?_ ?_; (· (intro w' hw'; clear hK; go_simp)); go_simp; refine hK _ ?_; clear hK K)
    | (refine stepL_call (f := 10) (args := #[.int .i64 0]) rfl rfl rfl ?_ (fun w' hw' => HN0.out w' hw') ?_; (· (intro w'; clear hK; go_simp)); go_simp; refine hK _ ?_; clear hK K))
  refine wpL_nil ?_
  intro wc ac
  simp only [forL]
  have A6c := Lib.hid (Adds.trans (Adds.drew w6) ac)
  have HC := Lib.hid (Adds.trans H6.out A6c.out)
  have BAc := Lib.hid (BA6.out.adds A6c.out)
  have ca0 : wc.cell? ⟨w.heap.size, 0, none⟩ = some (.int .i64 a0) := BAc.out.cell 0
  have ca1 : wc.cell? ⟨w.heap.size, 1, none⟩ = some (.int .i64 a1) := BAc.out.cell 1
  have ca2 : wc.cell? ⟨w.heap.size, 2, none⟩ = some (.int .i64 a2) := BAc.out.cell 2
  have ca3 : wc.cell? ⟨w.heap.size, 3, none⟩ = some (.int .i64 a3) := BAc.out.cell 3
  have ca4 : wc.cell? ⟨w.heap.size, 4, none⟩ = some (.int .u32 a4) := BAc.out.cell 4
  have hn := HNsv.out
  have Oc := Lib.hid (O6.out.adds A6c.out)
  clear ac HX0 HC0 hsl HN0 BA6 H6
  go_wp2_with (first
    | (go_at_call 11; refine (HR.out _).mono ?_; rintro e w7 ⟨rfl, h7⟩; have BA7 := Lib.hid (BAc.out.adds h7); have H7 := Lib.hid (Adds.trans HC.out h7); have O7 := Lib.hid (Oc.out.adds h7); have HE := Lib.hid (own_empty w7); have A0 := Lib.hid (Gr.new w7 (.cells #[] 5)).adds; clear h7; clear ca0 ca1 ca2 ca3 ca4; have ca0 : w7.cell? ⟨w.heap.size, 0, none⟩ = some (.int .i64 a0) := BA7.out.cell 0; have ca1 : w7.cell? ⟨w.heap.size, 1, none⟩ = some (.int .i64 a1) := BA7.out.cell 1; have ca2 : w7.cell? ⟨w.heap.size, 2, none⟩ = some (.int .i64 a2) := BA7.out.cell 2; have ca3 : w7.cell? ⟨w.heap.size, 3, none⟩ = some (.int .i64 a3) := BA7.out.cell 3; have ca4 : w7.cell? ⟨w.heap.size, 4, none⟩ = some (.int .u32 a4) := BA7.out.cell 4)
    | (at_builtin; refine wp_append_bytes rfl (.tmp 87) (.tmp 88) rfl w7.heap.size _ [] rfl (by exact HE.out) _ L _ rfl (by exact (O7.out.adds A0.out).bytes) (by have := HLs.out; simp; omega) (by simp) ?_; intro v8 w8 o8 b8; have O8 := Lib.hid o8; have B8 := Lib.hid (Below.trans A0.out b8); clear o8 b8)
    | (at_builtin; refine wp_append_bytes rfl (.tmp 89) (.tmp 90) rfl w7.heap.size _ ([] ++ L) rfl (by exact O8.out) _ l _ rfl (by exact bytes_adds HRB.out (Adds.trans H7.out B8.out)) (by have := HLs.out; have := HI.out; rw [List.nil_append]; omega) (by exact B8.out.size) ?_; intro v9 w9 o9 b9; have O9 := Lib.hid o9; have B9 := Lib.hid (Below.trans B8.out b9); clear o9 b9)
    | (go_at_call 8; refine (HR2.out _ _ (Adds.trans H7.out B9.out) (by exact O9.out.bytes)).mono ?_; rintro e w10 ⟨rfl, h10⟩; have H10 := Lib.hid (Adds.trans B9.out h10); clear h10))
  obtain ⟨k11, hk11⟩ : ∃ k, w10.heap.size = k := ⟨_, rfl⟩
  obtain ⟨w11, hw11⟩ : ∃ w11, w10.alloc (.cells #[.int .i64 a0, .int .i64 a1, .int .i64 a2, .int .i64 a3, .int .u32 a4] 25) = w11 := ⟨_, rfl⟩
  have A11 := Lib.hid (show Adds w10 w11 by rw [← hw11]; exact (Gr.new _ _).adds)
  have B11 := Lib.hid (show BkS 25 w11 k11 [.int .i64 a0, .int .i64 a1, .int .i64 a2, .int .i64 a3, .int .u32 a4] by rw [← hw11, ← hk11]; exact BkS.new _ _ _)
  have A7 := Lib.hid (Adds.trans H10.out A11.out)
  have BA11 := Lib.hid (BA7.out.adds A7.out)
  have O11 := Lib.hid (O7.out.adds A7.out)
  have H11 := Lib.hid (Adds.trans H7.out A7.out)
  obtain ⟨k0, hk0⟩ : ∃ k, w.heap.size = k := ⟨_, rfl⟩
  rw [hk0] at BA11
  rw [hk11]
  first | rw [hw11] | skip
  rw [hk0]
  obtain ⟨lv, lc, rfl, _, _, _⟩ := id O11.out.bytes
  clear hw11 hk11 hk0 BA7 A11 ca0 ca1 ca2 ca3 ca4 O9 O8 B9 B8 HE A0 H10
  have HD := Lib.hid (show ∀ w', Adds w11.drew w' → (w'.cell? ⟨k0, 0, none⟩ = some (.int .i64 a0) ∧ w'.cell? ⟨k0, 1, none⟩ = some (.int .i64 a1) ∧ w'.cell? ⟨k0, 2, none⟩ = some (.int .i64 a2) ∧ w'.cell? ⟨k0, 3, none⟩ = some (.int .i64 a3) ∧ w'.cell? ⟨k0, 4, none⟩ = some (.int .u32 a4)) ∧ w'.cell? ⟨k11, 0, none⟩ = some (.int .i64 a0) ∧ w'.cell? ⟨k11, 1, none⟩ = some (.int .i64 a1) ∧ w'.cell? ⟨k11, 2, none⟩ = some (.int .i64 a2) ∧ w'.cell? ⟨k11, 3, none⟩ = some (.int .i64 a3) ∧ w'.cell? ⟨k11, 4, none⟩ = some (.int .u32 a4) from fun w' h =>
    ⟨⟨(BA11.out.adds (Adds.trans (Adds.drew w11) h)).cell 0, (BA11.out.adds (Adds.trans (Adds.drew w11) h)).cell 1, (BA11.out.adds (Adds.trans (Adds.drew w11) h)).cell 2, (BA11.out.adds (Adds.trans (Adds.drew w11) h)).cell 3, (BA11.out.adds (Adds.trans (Adds.drew w11) h)).cell 4⟩, (B11.out.adds (Adds.trans (Adds.drew w11) h)).cell 0, (B11.out.adds (Adds.trans (Adds.drew w11) h)).cell 1, (B11.out.adds (Adds.trans (Adds.drew w11) h)).cell 2, (B11.out.adds (Adds.trans (Adds.drew w11) h)).cell 3, (B11.out.adds (Adds.trans (Adds.drew w11) h)).cell 4⟩)
  have HN0 := Lib.hid (show ∀ w', Adds w11.drew w' → Calls Tryz.prog 10 #[.int .i64 0] w' (fun e w'' => e = .returned (.int .i64 0) ∧ Adds w' w'') from fun w' _ => (num_ins 0 w').mono fun _ _ ⟨h1, h2⟩ => ⟨h1, h2 ▸ Adds.refl w'⟩)
  have HB0 := Lib.hid (show ∀ w', Adds w11.drew w' → Calls Tryz.prog 12 #[.agg #[.int .i64 a0, .int .i64 a1, .int .i64 a2, .int .i64 a3, .int .u32 a4]] w' (fun e w'' => ∃ u, e = .returned u ∧ Bytes w''.heap.size w'' u L ∧ Adds w' w'') from fun w' _ => (HRB2.out w').mono fun _ _ ⟨u, h1, h2, h3⟩ => ⟨u, h1, h2.bytes, h3⟩)
  have HS0 := Lib.hid (show ∀ w', Adds w11.drew w' → (convert 26 9 (.slice lv L.length lc)).run Tryz.prog w' = .ok (.string (str L)) w' from fun w' h => strAt (O11.out.adds (Adds.trans (Adds.drew w11) h)).bytes)
  have HW0 := Lib.hid (show ∀ w', Adds w11.drew w' → Calls Tryz.prog 6 #[] w' (fun e w'' => e = .returned (.bool true) ∧ Adds w' w'') from fun w' h => HWk.out w' (Adds.trans H11.out (Adds.trans (Adds.drew w11) h)))
  clear hq hn hI HR2 HRB2 HR HV HWk HRB HRP HLs
  refine wp_region_loose [99] (fun _ u w => Bytes w.heap.size w u L) Adds (by kernel_rfl) (by kernel_rfl) (by simp []) Adds.refl (fun _ _ _ h k => Adds.trans h k) (fun _ _ _ _ h k => bytes_adds k h) ?_
  repeat (refine wpL_step (fun K hK => ?_); first
    | (refine stepL_ex rfl rfl rfl Adds.refl (fun w' hw' => rfl) ?_; go_simp; refine hK _ ?_; clear hK K)
    | (refine stepL_ex (v := .agg #[.int .i64 a0, .int .i64 a1, .int .i64 a2, .int .i64 a3, .int .u32 a4]) rfl rfl rfl Adds.refl ?_ ?_; (· (intro w' hw'; clear hK; have hc := HD.out w' hw'; go_simp)); go_simp; refine hK _ ?_; clear hK K)
    | (refine stepL_ex (v := .string (str L)) rfl rfl rfl Adds.refl ?_ ?_; (· (intro w' hw'; clear hK; have hS := HS0.out w' hw'; go_simp)); go_simp; refine hK _ ?_; clear hK K)
    | (refine stepL_key (f := 12) (args := #[.agg #[.int .i64 a0, .int .i64 a1, .int .i64 a2, .int .i64 a3, .int .u32 a4]]) 99 rfl rfl rfl rfl ?_ (fun w' hw' => HB0.out w' hw') ?_; (· (intro w'; clear hK; go_simp)); refine hK _ ?_; clear hK K)
    | (refine stepL_ex1 (v := .string (str L)) rfl rfl Adds.refl ?_ ?_; (· (intro w' u hw' hu; refine ⟨rfl, ?_⟩; clear hK; have hS := strAt hu; go_simp)); go_simp; refine hK _ ?_; clear hK K)
    | (refine stepL_ex (v := .bool true) rfl rfl rfl Adds.refl ?_ ?_; (· (intro w' hw'; clear hK; go_simp)); go_simp; refine hK _ ?_; clear hK K)
    | (refine stepL_ex (v := .int .i64 0) rfl rfl rfl Adds.refl ?_ ?_; (· (intro w' hw'; clear hK; go_simp)); go_simp; refine hK _ ?_; clear hK K)
    | (refine stepL_ex (v := .int .i64 (L.length : Nat)) rfl rfl rfl Adds.refl ?_ ?_; (· (intro w' hw'; clear hK; go_simp)); go_simp; refine hK _ ?_; clear hK K)
    | (refine stepL_call (f := 10) (args := #[.int .i64 0]) rfl rfl rfl ?_ (fun w' hw' => HN0.out w' hw') ?_; (· (intro w'; clear hK; go_simp)); go_simp; refine hK _ ?_; clear hK K)
    | (refine stepL_call (f := 6) (args := #[]) rfl rfl rfl ?_ (fun w' hw' => HW0.out w' hw') ?_; (· (intro w'; clear hK; go_simp)); go_simp; refine hK _ ?_; clear hK K))
  refine wpL_nil ?_
  intro w12 a12
  simp only [forL]
  intro u hu
  have H12 := Lib.hid (Adds.trans H11.out (Adds.trans (Adds.drew w11) a12))
  clear a12
  go_wp2
  go_ret
  exact ⟨rfl, H12.out⟩
theorem law_bytesI {n : Nat} (a : In) (ha : OkIn a) (v : Value) (l : List UInt8) (w : World) (hn : n ≤ w.heap.size) (hb : Bytes n w v l) (hv : IVars w) : Calls Tryz.prog 3 #[insV a, v] w (TrueB w) := by
  by_cases h : 60 < l.length
  · exact ibytes_long a v l h w hb hv
  · obtain ⟨x, m, er, hx, _, hxi, hok, _⟩ := readI_cases l
    by_cases he : er = 0
    · subst he
      cases hr : mayI a
      · exact ibytes_ok_no a ha hr v l (by omega) x m hx hxi hok w hn hb hv
      · exact ibytes_ok_yes a ha hr v l (by omega) x m hx hxi hok w hn hb hv
    · cases hr : mayI a
      · exact ibytes_er_no a ha hr v l (by omega) x m er he hx hxi w hn hb hv
      · exact ibytes_er_yes a ha hr v l (by omega) x m er he hx hxi w hn hb hv
end Go.Proofs.YtdbbilabhlnhmaaGreatDoor
