/- Merged: MR5. -/
import Derived.Test.YthhegcngkpfcoaaGreatDoorE33
import Derived.Test.YthhegcngkpfcoaaGreatDoorE39
import Derived.Test.YthhegcngkpfcoaaGreatDoorE46
namespace Go.Proofs.YthhegcngkpfcoaaGreatDoor
open Go Go.RowKit Go.Shelf Go.Lib

theorem refBytesM_any {x : In} (h : mayI x = true) (w : World) : Calls Tryz.prog 42 #[insV x] w (GivesB (bytesI x) (fun v => v) w) := by
  obtain ⟨op, a, b, c, i, rfl, h1, h2, ha, hb, hc, hi, _⟩ := may_numsR h
  have ea : ((UInt8.ofNat a).toNat : Int) = (a : Int) := by rw [UInt8.toNat_ofNat']; omega
  have eb : ((UInt8.ofNat b).toNat : Int) = (b : Int) := by rw [UInt8.toNat_ofNat']; omega
  have ec : ((UInt8.ofNat c).toNat : Int) = (c : Int) := by rw [UInt8.toNat_ofNat']; omega
  have hh := refBytesI_any op h1 h2 (UInt8.ofNat a) (UInt8.ofNat b) (UInt8.ofNat c) i hi w
  rw [refO_bytes op h1 h2, ea, eb, ec] at hh
  exact hh
theorem own_apart {w W : World} {b : Nat} {v u : Value} {l m : List UInt8} (h : OwnB w b v l) (k : OwnB W w.heap.size u m) : ∀ g, u.ownBlock = some g → v.ownBlock ≠ some g := fun g e e' => by
  have h1 := (World.ownsRow.lt k g e).1
  have h2 := (World.ownsRow.lt h g e').2
  omega
/-- Bytes under way, a program in its box. -/
structure BSt (w : World) (ps : List Value) (W : World) (v : Value) (l : List UInt8) : Prop where
  box : BkS 24 W w.heap.size ps
  own : OwnB W (w.heap.size + 1) v l
  add : Adds w W
  big : w.heap.size + 1 ≤ W.heap.size
theorem BSt.adds {w : World} {ps : List Value} {W W' : World} {v : Value} {l : List UInt8} (h : BSt w ps W v l) (ha : Adds W W') : BSt w ps W' v l := ⟨h.box.adds ha, h.own.adds ha, Adds.trans h.add ha, Nat.le_trans h.big ha.size⟩
theorem BSt.app {w : World} {ps : List Value} {W W' : World} {v v' : Value} {l m : List UInt8} (h : BSt w ps W v l) (o : OwnB W' (w.heap.size + 1) v' m) (g : W.grownBy W' v.ownBlock) : BSt w ps W' v' m := by
  have hlt := fun b hb => World.ownsRow.lt h.own b hb
  refine ⟨(g.block _ h.box.lt (fun e => by have := (hlt _ e.symm).1; omega)).trans h.box, o, ?_, Nat.le_trans h.big g.size⟩
  exact Below.grown h.add g h.add.size fun k hk => by have := (hlt k hk).1; omega
/-- And a function in its own. -/
structure BFt (w : World) (ps : List Value) (bf : Nat) (fs : List Value) (W : World) (v : Value) (l : List UInt8) : Prop where
  st : BSt w ps W v l
  fb : BkS 55 W bf fs
theorem BFt.adds {w : World} {ps : List Value} {bf : Nat} {fs : List Value} {W W' : World} {v : Value} {l : List UInt8} (h : BFt w ps bf fs W v l) (ha : Adds W W') : BFt w ps bf fs W' v l := ⟨h.st.adds ha, h.fb.adds ha⟩
theorem BFt.app {w : World} {ps : List Value} {bf : Nat} {fs : List Value} {W W' : World} {v v' : Value} {l m : List UInt8} (h : BFt w ps bf fs W v l) (o : OwnB W' (w.heap.size + 1) v' m) (g : W.grownBy W' v.ownBlock) : BFt w ps bf fs W' v' m :=
  ⟨h.st.app o g, h.fb.grown g (own_neT h.st.own h.fb (by decide))⟩
def bareT (p : Pg) (k : Nat) : List UInt8 := lineB ++ (headB p ++ (p.1.take k).flatMap funcB)
def bareU (p : Pg) (k q : Nat) : List UInt8 := bareT p k ++ (fixB (p.1.getD k zF).1.toNat 1 ++ (fixB (p.1.getD k zF).2.length 2 ++ ((p.1.getD k zF).2.take q).flatMap bytesI))
theorem bareT_all (p : Pg) : bareT p p.1.length = bareB p := by unfold bareT bareB; rw [List.take_length]
theorem bareU_end (p : Pg) (k : Nat) (h : k < p.1.length) : bareU p k (p.1.getD k zF).2.length = bareT p (k + 1) := by
  unfold bareU bareT
  rw [List.take_length, funcB_take _ _ h]
  unfold funcB
  simp
theorem bareU_succ (p : Pg) (k q : Nat) (h : q < (p.1.getD k zF).2.length) : bareU p k (q + 1) = bareU p k q ++ bytesI ((p.1.getD k zF).2.getD q zI) := by
  unfold bareU
  rw [bytesI_take _ _ h]
  simp
theorem bareT_le {p : Pg} (hF : Fine p) (k : Nat) : (bareT p k).length ≤ 700000 := by
  have h1 := funcsB_le (p.1.take k) (fun f hf => (hF.fs f (List.mem_of_mem_take hf)).2.1.2)
  have h2 := hF.n0.2
  have h4 : (headB p).length ≤ 8 * 4 := tellB_len 1 _
  unfold bareT lineB
  rw [List.length_take] at h1
  simp only [List.length_append, List.length_cons, List.length_nil]
  have : min k p.1.length * 17000 ≤ 32 * 17000 := Nat.mul_le_mul_right _ (by omega)
  omega
theorem bareU_le {p : Pg} (hF : Fine p) (k q : Nat) (h : k < p.1.length) : (bareU p k q).length ≤ 800000 := by
  unfold bareU
  have h1 := bareT_le hF k
  have h2 := flat_le33 ((p.1.getD k zF).2.take q)
  have h3 := (hF.fs _ (mem_getDz p.1 zF k h)).2.1.2
  have h4 : (fixB (p.1.getD k zF).1.toNat 1).length ≤ 8 := fixB_le8 _ 1
  have h5 : (fixB (p.1.getD k zF).2.length 2).length ≤ 8 := fixB_le8 _ 2
  rw [List.length_take] at h2
  simp only [List.length_append]
  omega
theorem head_is {fs : List Fu} {xa xb xc xn : UInt8} (hn : fs.length = xn.toNat) : bareT (fs, (xa.toNat : Int), (xb.toNat : Int), (xc.toNat : Int)) 0 = [108, 105, 110, 101, xa, xb, xc, xn] := by
  unfold bareT headB tellB lineB
  have ha := fix_one xa; have hb := fix_one xb; have hc := fix_one xc; have hd := fix_one xn
  simp [hn, ha, hb, hc, hd]
theorem nat_byte {x : Int} (h0 : 0 ≤ x) (h1 : x < 256) : ∃ b : UInt8, x = (b.toNat : Int) := ⟨UInt8.ofNat x.toNat, by rw [UInt8.toNat_ofNat']; omega⟩
set_option maxRecDepth 100000 in
set_option maxHeartbeats 16000000 in
theorem refBare_any {m : Nat} (u : Value) (p : Pg) (w : World) (hf : FuncsW m w u p.1) (hF : Fine p) : Calls Tryz.prog 23 #[pgV u p] w (GivesB (bareB p) (fun v => v) w) := by
  have HF := Lib.hid hf.here
  have HFi := Lib.hid hF
  have HAll := Lib.hid (bareT_all p)
  have HEnd := Lib.hid (bareU_end p)
  have HSuc := Lib.hid (bareU_succ p)
  have HTl := Lib.hid (bareT_le hF)
  have HUl := Lib.hid (bareU_le hF)
  have HU0 := Lib.hid (fun k => show bareU p k 0 = bareT p k ++ (fixB (p.1.getD k zF).1.toNat 1 ++ fixB (p.1.getD k zF).2.length 2) from by unfold bareU; simp)
  obtain ⟨fs, x1, x2, x3⟩ := p
  obtain ⟨n0, n1, n2, n3, hfs⟩ := hF
  simp only at n0 n1 n2 n3 hfs hf
  obtain ⟨xa, rfl⟩ := nat_byte n1.1 (show x1 < 256 by omega)
  obtain ⟨xb, rfl⟩ := nat_byte n2.1 (show x2 < 256 by omega)
  obtain ⟨xc, rfl⟩ := nat_byte n3.1 (show x3 < 256 by omega)
  obtain ⟨xn, hxn⟩ := nat_byte (show (0 : Int) ≤ (fs.length : Int) by omega) (show (fs.length : Int) < 256 by omega)
  have HHd := Lib.hid (head_is (fs := fs) (xa := xa) (xb := xb) (xc := xc) (xn := xn) (by omega))
  have HFs := Lib.hid hfs
  obtain ⟨ao, cap, rfl, _, _, _⟩ := hf
  obtain ⟨fl, hfl⟩ : ∃ fl, fs.length = fl := ⟨_, rfl⟩
  have HFl := Lib.hid hfl
  have hfb : (fl : Int) % 256 = (xn.toNat : Int) := by omega
  have hfI : (fl : Int) ≤ 32 := by omega
  have HXf := Lib.hid (show (fl : Int) = (xn.toNat : Int) by omega)
  have hab := byte8 xa
  have hbb := byte8 xb
  have hcb := byte8 xc
  simp only at HF HAll HEnd HSuc HTl HUl HU0
  rw [← HAll.out]
  clear HAll
  rw [hfl]
  obtain ⟨BT, hBT⟩ : ∃ BT : Nat → List UInt8, bareT (fs, (xa.toNat : Int), (xb.toNat : Int), (xc.toNat : Int)) = BT := ⟨_, rfl⟩
  obtain ⟨BU, hBU⟩ : ∃ BU : Nat → Nat → List UInt8, bareU (fs, (xa.toNat : Int), (xb.toNat : Int), (xc.toNat : Int)) = BU := ⟨_, rfl⟩
  simp only [hBT, hBU] at HHd HEnd HSuc HTl HUl HU0 ⊢
  clear n0 n1 n2 n3 hfs hfl hxn hBT hBU
  obtain ⟨w1, hw1⟩ : ∃ w1, w.alloc (.cells #[.slice ao fl cap, .int .i64 (xa.toNat : Int), .int .i64 (xb.toNat : Int), .int .i64 (xc.toNat : Int)] 24) = w1 := ⟨_, rfl⟩
  have A1 := Lib.hid (show Adds w w1 by rw [← hw1]; exact Adds.new _ _)
  have B1 := Lib.hid (show BkS 24 w1 w.heap.size [.slice ao fl cap, .int .i64 (xa.toNat : Int), .int .i64 (xb.toNat : Int), .int .i64 (xc.toNat : Int)] by rw [← hw1]; exact BkS.new _ _ _)
  have hz1 : w1.heap.size = w.heap.size + 1 := by rw [← hw1]; simp
  have b0 : w1.cell? ⟨w.heap.size, 0, none⟩ = some (.slice ao fl cap) := B1.out.cell 0
  have b1 : w1.cell? ⟨w.heap.size, 1, none⟩ = some (.int .i64 (xa.toNat : Int)) := B1.out.cell 1
  have b2 : w1.cell? ⟨w.heap.size, 2, none⟩ = some (.int .i64 (xb.toNat : Int)) := B1.out.cell 2
  have b3 : w1.cell? ⟨w.heap.size, 3, none⟩ = some (.int .i64 (xc.toNat : Int)) := B1.out.cell 3
  obtain ⟨w2, hw2⟩ : ∃ w2, w1.alloc (.cells #[.int .u8 108, .int .u8 105, .int .u8 110, .int .u8 101, .int .u8 (xa.toNat : Int), .int .u8 (xb.toNat : Int), .int .u8 (xc.toNat : Int), .int .u8 (fl : Int)] 5) = w2 := ⟨_, rfl⟩
  have S0 := Lib.hid (show BSt w [.slice ao fl cap, .int .i64 (xa.toNat : Int), .int .i64 (xb.toNat : Int), .int .i64 (xc.toNat : Int)] w2 (.slice (some ⟨w.heap.size + 1, 0, none⟩) 8 8) (BT 0) by
    rw [← hw2, HHd.out, HXf.out]
    refine ⟨B1.out.adds (Adds.new _ _), ?_, A1.out.trans (Adds.new _ _), ?_⟩
    · rw [← hz1]; exact OwnB.lit w1 [108, 105, 110, 101, xa, xb, xc, xn] (by simp [maxLen])
    · simp; omega)
  clear HHd
  go_enter Tryz.func23, Tryz.ntmps23
  go_wp2
  clear b0 b1 b2 b3
  go_loopw [3, 4] (fun n i wr => ∃ k : Nat, i = .int .i64 k ∧ k ≤ fl ∧ Hid (BSt w [.slice ao fl cap, .int .i64 (xa.toNat : Int), .int .i64 (xb.toNat : Int), .int .i64 (xc.toNat : Int)] wr n (BT k))) (fun _ i _ => fl + 1 - (intOf i).toNat)
  case atStart => exact ⟨0, rfl, Nat.zero_le _, S0⟩
  case round =>
    obtain ⟨k, rfl, hkl, HS⟩ := hrel
    by_cases hlt : k < fl
    · have hltI : (k : Int) < (fl : Int) := by omega
      have HLt := Lib.hid hlt
      have hkf : k < fs.length := by rw [HFl.out]; exact hlt
      have HKf := Lib.hid hkf
      obtain ⟨g, off, rfl, hg, hat⟩ := HF.out.at hkf
      obtain ⟨k0, cv, k1, hc, hok⟩ := hat
      obtain ⟨ac, cc, rfl, _, _⟩ := hc.form
      have hgf := HFs.out _ (mem_getDz fs zF k hkf)
      obtain ⟨⟨r, c⟩, hre⟩ : ∃ f, fs.getD k zF = f := ⟨_, rfl⟩
      have HRe := Lib.hid hre
      rw [hre] at k0 hc k1 hok hgf
      simp only at k0 hc k1 hok hgf
      obtain ⟨hr1, hc1, hmay⟩ := hgf
      obtain ⟨xr, rfl⟩ := nat_byte (show 0 ≤ r by omega) (show r < 256 by omega)
      obtain ⟨cl, hcle⟩ : ∃ cl, c.length = cl := ⟨_, rfl⟩
      have HCl := Lib.hid hcle
      have HCw := Lib.hid hc
      rw [hcle] at k1 hc1
      have HMay := Lib.hid hmay
      have hrb := byte8 xr
      have hcu : (cl : Int) % 18446744073709551616 = (cl : Int) := by omega
      have hclI : (cl : Int) ≤ 512 := by omega
      have HUe := Lib.hid (show BU k 0 = BT k ++ [xr] ++ fixB cl 2 by rw [HU0.out k, HRe.out]; simp only [Int.toNat_natCast, HCl.out]; rw [fix_one]; simp)
      have HFx := Lib.hid (fun W => refFixed_any cl (by unfold U64; omega) 2 W)
      have HTk := Lib.hid (HTl.out k)
      have HFl2 := Lib.hid (show (fixB cl 2).length ≤ 8 from fixB_le8 cl 2)
      obtain ⟨T, hT⟩ : ∃ T, BT k = T := ⟨_, rfl⟩
      rw [hT] at HS HUe HTk
      obtain ⟨fx, hfx⟩ : ∃ fx, fixB cl 2 = fx := ⟨_, rfl⟩
      obtain ⟨fe, hfe⟩ : ∃ fe, fixE cl 2 = fe := ⟨_, rfl⟩
      rw [hfx] at HUe HFx HFl2
      rw [hfe] at HFx
      have b0 : wr.cell? ⟨w.heap.size, 0, none⟩ = some (.slice (some ⟨g, off, none⟩) fl cap) := HS.out.box.cell 0
      have m0 := HS.out.add.cellAt k0
      have m1 := HS.out.add.cellAt k1
      obtain ⟨wf, hwf⟩ : ∃ wf, wr.alloc (.cells #[.int .i64 (xr.toNat : Int), .slice ac cl cc] 55) = wf := ⟨_, rfl⟩
      have SF := Lib.hid (show BFt w [.slice (some ⟨g, off, none⟩) fl cap, .int .i64 (xa.toNat : Int), .int .i64 (xb.toNat : Int), .int .i64 (xc.toNat : Int)] wr.heap.size [.int .i64 (xr.toNat : Int), .slice ac cl cc] wf _ T from by
        rw [← hwf]
        exact ⟨HS.out.adds (Adds.new _ _), BkS.new _ _ _⟩)
      have f0 : wf.cell? ⟨wr.heap.size, 0, none⟩ = some (.int .i64 (xr.toNat : Int)) := SF.out.fb.cell 0
      have f1 : wf.cell? ⟨wr.heap.size, 1, none⟩ = some (.slice ac cl cc) := SF.out.fb.cell 1
      clear hlt hkl hkf hg k0 k1 hc hok hre hr1 hc1 hmay hcle hT hfx hfe
      go_wp2_with (first
        | (go_at_call 27; refine (HFx.out _).mono ?_; rintro e W1 ⟨vf, rfl, of, q⟩; have S1 := Lib.hid (SF.out.adds q); have OF := Lib.hid of; have c0 : W1.cell? ⟨wr.heap.size, 0, none⟩ = some (.int .i64 (xr.toNat : Int)) := S1.out.fb.cell 0; clear of q HFx)
        | (at_builtin; refine wp_append_b8 rfl (.tmp 43) (.tmp 47) rfl (w.heap.size + 1) _ T rfl (by exact S1.out.st.own.adds (Adds.new _ _)) _ [xr] _ rfl (by exact (lit1 _ _ xr rfl).bytes) (by have := HTk.out; simp; omega) (by exact (S1.out.adds (Adds.new _ _)).st.big) ?_; intro V2 W2 o g; have S2 := Lib.hid ((S1.out.adds (Adds.new _ _)).app o g); have OF2 := Lib.hid (ownsRow_grown (OF.out.adds (Adds.new _ _)) g (own_apart SF.out.st.own OF.out)); clear o g)
        | (at_builtin; refine wp_append_b8 rfl (.tmp 48) (.tmp 49) rfl (w.heap.size + 1) _ (T ++ [xr]) rfl (by exact S2.out.st.own) _ fx _ rfl (by exact OwnB.bytes OF2.out) (by have := HTk.out; have := HFl2.out; simp; omega) (by exact S2.out.st.big) ?_; intro V3 W3 o g; have S3 := Lib.hid (S2.out.app o g); clear o g))
      obtain ⟨bf, hbf⟩ : ∃ bf, wr.heap.size = bf := ⟨_, rfl⟩
      rw [hbf] at S3 ⊢
      clear hbf hwf SF S2 OF2 f0 f1 m0 m1 b0
      go_loopw [3, 8] (fun n i wr => ∃ q : Nat, i = .int .i64 q ∧ q ≤ cl ∧ Hid (BFt w [.slice (some ⟨g, off, none⟩) fl cap, .int .i64 (xa.toNat : Int), .int .i64 (xb.toNat : Int), .int .i64 (xc.toNat : Int)] bf [.int .i64 (xr.toNat : Int), .slice ac cl cc] wr n (BU k q))) (fun _ i _ => cl + 1 - (intOf i).toNat)
      case atStart => exact ⟨0, rfl, Nat.zero_le _, Lib.hid (by rw [HUe.out]; exact S3.out)⟩
      case round =>
        obtain ⟨q, rfl, hq, HS2⟩ := hrel
        have c1 : wr.cell? ⟨bf, 1, none⟩ = some (.slice ac cl cc) := HS2.out.fb.cell 1
        by_cases hqt : q < cl
        · have hqI : (q : Int) < (cl : Int) := by omega
          have HQt := Lib.hid hqt
          have hqc : q < c.length := by rw [HCl.out]; exact hqt
          obtain ⟨g2, off2, e2, _, hx⟩ := (HCw.out.adds HS2.out.st.add).at hqc
          subst e2
          have hmx := HMay.out _ (mem_getDz c zI q hqc)
          have HSu := Lib.hid (show BU k (q + 1) = BU k q ++ bytesI (c.getD q zI) by have h := HSuc.out k q (by rw [HRe.out]; exact hqc); rwa [HRe.out] at h)
          have HLq := Lib.hid (HUl.out k q HKf.out)
          obtain ⟨x, hxe⟩ : ∃ x, c.getD q zI = x := ⟨_, rfl⟩
          rw [hxe] at hx hmx HSu
          have HBy := Lib.hid (fun W => refBytesM_any hmx W)
          have HBl := Lib.hid (bytesI_le x)
          obtain ⟨bx, hbx⟩ : ∃ bx, bytesI x = bx := ⟨_, rfl⟩
          rw [hbx] at HSu HBy HBl
          obtain ⟨U, hU⟩ : ∃ U, BU k q = U := ⟨_, rfl⟩
          rw [hU] at HSu HS2 HLq
          obtain ⟨xo, ya, yb, yc, yi⟩ := x
          obtain ⟨hx0, hx1, hx2, hx3, hx4⟩ := hx
          simp only at hx0 hx1 hx2 hx3 hx4
          clear hbx hxe hmx hqt hq hqc hU
          go_wp2_with (first
            | (go_at_call 42; refine (HBy.out _).mono ?_; rintro e W5 ⟨v5, rfl, o5, a5⟩; have S5 := Lib.hid (HS2.out.adds a5); have O5 := Lib.hid o5.bytes; clear o5 a5 HBy)
            | (at_builtin; refine wp_append_b8 rfl (.tmp 58) (.tmp 64) rfl (w.heap.size + 1) _ U rfl (by exact S5.out.st.own) _ bx _ rfl (by exact O5.out) (by have := HLq.out; have := HBl.out; omega) (by exact S5.out.st.big) ?_; intro V6 W6 o g; have S6 := Lib.hid (S5.out.app o g); clear o g))
          go_roundw
          case rel => exact ⟨q + 1, by go_num, HQt.out, Lib.hid (by rw [HSu.out]; exact S6.out)⟩
          case measure => simp [intOf]; have := HQt.out; omega
        · have hqe : q = cl := Nat.le_antisymm hq (Nat.le_of_not_lt hqt)
          have hqI : ¬ (q : Int) < (cl : Int) := by rw [hqe]; exact Int.lt_irrefl _
          have HE := Lib.hid (show BU k q = BT (k + 1) by have h := HEnd.out k HKf.out; rw [HRe.out] at h; simp only [HCl.out] at h; rw [hqe]; exact h)
          clear hqe hqt hq
          go_wp2
          go_roundw
          case rel => exact ⟨k + 1, by go_num, HLt.out, Lib.hid (by rw [← HE.out]; exact HS2.out.st)⟩
          case measure => simp [intOf]; have := HLt.out; omega
    · have hltI : ¬ (k : Int) < (fl : Int) := by omega
      have hke : k = fl := Nat.le_antisymm hkl (Nat.le_of_not_lt hlt)
      have b0 : wr.cell? ⟨w.heap.size, 0, none⟩ = some (.slice ao fl cap) := HS.out.box.cell 0
      have HKe := Lib.hid hke
      clear hlt hkl hke
      go_wp2
      go_ret
      have h := HS.out
      rw [HKe.out] at h
      exact ⟨_, rfl, h.own.lower (Nat.le_succ _), h.add⟩
end Go.Proofs.YthhegcngkpfcoaaGreatDoor
