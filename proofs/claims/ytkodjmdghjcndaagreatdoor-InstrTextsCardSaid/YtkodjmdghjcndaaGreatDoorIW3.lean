/- A number behind a blank and its mark: contract. -/
import Derived.Test.YtkodjmdghjcndaaGreatDoorIW2
import Derived.Test.YtkodjmdghjcndaaGreatDoorIT2
namespace Go.Proofs.YtkodjmdghjcndaaGreatDoor
open Go Go.RowKit Go.Shelf

theorem str_bytes8 (w : World) (s : ByteArray) (hs : s.size ≤ 65536) : Bytes (Lib.bytesWorld w 5 s).heap.size (Lib.bytesWorld w 5 s) (.slice (some ⟨w.heap.size, 0, none⟩) s.size (grownCap w s.size 0 5)) s.data.toList := by
  have hb : w.heap.size < (Lib.bytesWorld w 5 s).heap.size := by rw [Lib.bytesWorld_size]; exact Nat.lt_succ_self _
  have hl : s.data.toList.length = s.size := by show s.data.toList.length = s.data.size; exact Array.length_toList
  refine ⟨some ⟨w.heap.size, 0, none⟩, grownCap w s.size 0 5, by rw [hl], by rw [hl]; exact grownCap_ge w s.size 0 5, grownCap_le_maxLen w s.size 0 5 (by unfold maxLen; omega), fun _ => ⟨w.heap.size, 0, rfl, hb, fun i hi => ?_⟩⟩
  rw [hl] at hi
  rw [Nat.zero_add]
  exact Lib.bytesWorld_cell w _ s i hi
theorem str_adds8 (w : World) (s : ByteArray) : Adds w (Lib.bytesWorld w 5 s) :=
  ⟨rfl, rfl, rfl, by rw [Lib.bytesWorld_size]; omega, fun k hk => Lib.bytesWorld_at_old w _ s k hk⟩
theorem run_str8 (s : ByteArray) (w : World) : (convert 9 42 (.string s)).run Tryz.prog w = .ok (.slice (some ⟨w.heap.size, 0, none⟩) s.size (grownCap w s.size 0 5)) (Lib.bytesWorld w 5 s) :=
  Lib.run_convert_string_bytes w _ _ _ s Tryz.underlying9 Tryz.underlying42 Tryz.underlying5
theorem err_some (t : TypeId) (v : Value) (w : World) : (binOp .neq 136 (.iface t v) .nilIface).run Tryz.prog w = .ok (.bool true) w := by kernel_rfl
theorem err_none (w : World) : (binOp .neq 136 .nilIface .nilIface).run Tryz.prog w = .ok (.bool false) w := by kernel_rfl

def digsOf (l : List UInt8) : List UInt8 := l.takeWhile isD
theorem digs_split (l : List UInt8) : (digsOf l).length + (l.dropWhile isD).length = l.length := by
  have := congrArg List.length (List.takeWhile_append_dropWhile (p := isD) (l := l))
  rw [List.length_append] at this
  exact this
theorem digs_take (l : List UInt8) : l.take (digsOf l).length = digsOf l := by
  have h := List.take_left (l₁ := digsOf l) (l₂ := l.dropWhile isD)
  rw [show digsOf l ++ l.dropWhile isD = l from List.takeWhile_append_dropWhile] at h
  exact h
/-- What stands there as a number behind a blank and its mark: the number, and how many bytes it takes. -/
def wordN (mk l : List UInt8) : Option (Nat × Nat) :=
  if isP (32 :: mk) l then match Lib.parseUintB 32 (digsOf (behindP (32 :: mk) l)) with | .ok u => some (u, mk.length + 1 + (digsOf (behindP (32 :: mk) l)).length) | _ => none else none
def wordV (r : Option (Nat × Nat)) : Value := match r with | some (u, k) => .tuple #[.int .i64 u, .int .i64 k, .int .i64 0] | none => .tuple #[.int .i64 0, .int .i64 0, .int .i64 180]
def cutT (ao : Option Addr) (cap i : Nat) : Value := .slice (if cap = 0 then ao else ao.map (·.add (0 * 1))) (i - 0) (cap - 0)
theorem slice_to8 (ao : Option Addr) (len cap i : Nat) (hi : i ≤ cap) (w : World) :
    (Instr.slice 42 (.slice ao len cap) none (some (.int .i64 (i : Int))) none).run Tryz.prog w = .ok (cutT ao cap i) w := by
  have h := run_slice_h (P := Tryz.prog) w 42 ao len cap (by kernel_rfl) .i64 i (by omega) (by omega)
  rw [h]
  have hs : (sizeOf (Tryz.prog.elem 42)).run Tryz.prog w = .ok 1 w := by
    obtain ⟨i0, hi, hz0, hz1, hz2⟩ := info_parts info8
    have e : Tryz.prog.elem 42 = 5 := by kernel_rfl
    rw [e]
    simp [sizeOf, typeInfo, hi, hz1]
  rw [hs]
  simp only [Result.andThen, sliced, Int.toNat_natCast]
  rfl
theorem bytes_to {n : Nat} {w : World} {ao : Option Addr} {len cap : Nat} {l : List UInt8} (h : Bytes n w (.slice ao len cap) l) (i : Nat) (hi : i ≤ l.length) : Bytes n w (cutT ao cap i) (l.take i) := by
  obtain ⟨hl, hlc, _⟩ := bytes_len h
  exact h.sliced 0 i cap (Nat.zero_le _) (by omega) (by omega) (Nat.le_refl _)
theorem behindP_len (p l : List UInt8) : (behindP p l).length ≤ l.length := by
  unfold behindP
  split
  · rw [List.length_drop]; omega
  · exact Nat.le_refl _
set_option maxRecDepth 100000 in
set_option maxHeartbeats 4000000 in
theorem word8 {n : Nat} (lo hi : Int) (mk : List UInt8) (z : Bool) (hmk : mk.length ≤ 1) (v : Value) (l : List UInt8) (w : World) (hv : Bytes n w v l) (hw : IVars w) (hl : l.length ≤ 65536) :
    Calls Tryz.prog 92 #[numV8 lo hi mk z, v] w fun e w' => e = .returned (wordV (wordN mk l)) ∧ Adds w w' := by
  obtain ⟨w1, hw1⟩ : ∃ w1, w.alloc (.cells #[.int .i64 lo, .int .i64 hi, .string ⟨mk.toArray⟩, .bool z] 85) = w1 := ⟨_, rfl⟩
  have HA1 := Lib.hid (show Adds w w1 by rw [← hw1]; exact (Gr.new _ _).adds)
  have i2 : w1.cell? ⟨w.heap.size, 2, none⟩ = some (.string ⟨mk.toArray⟩) := by rw [← hw1]; exact (BkS.new 85 w [.int .i64 lo, .int .i64 hi, .string ⟨mk.toArray⟩, .bool z]).cell 2
  obtain ⟨ms, hms⟩ : ∃ ms, (⟨mk.toArray⟩ : ByteArray) = ms := ⟨_, rfl⟩
  obtain ⟨ts, hts⟩ : ∃ ts, (⟨#[32]⟩ : ByteArray) ++ ms = ts := ⟨_, rfl⟩
  have hts2 : ts = str (32 :: mk) := by rw [← hts, ← hms]; apply ByteArray.ext; simp [str]
  have hmz : ms.size ≤ 1 := by rw [← hms]; show (str mk).size ≤ 1; rw [str_size8]; exact hmk
  have q1 : ¬ (9223372036854775807 < 1 + ms.size) := by omega
  have htz : ts.size = mk.length + 1 := by rw [hts2, str_size8]; rfl
  have htd : ts.data.toList = 32 :: mk := by rw [hts2]; rfl
  have HTz := Lib.hid htz
  have HTd := Lib.hid htd
  rw [hms] at i2 hw1
  show Calls Tryz.prog _ #[.agg #[.int .i64 lo, .int .i64 hi, .string ⟨mk.toArray⟩, .bool z], v] w _
  rw [hms]
  clear htz htd hms hmz hts2
  have hrs := run_str8 ts
  obtain ⟨rv, hrv⟩ : ∃ rv, wordN mk l = rv := ⟨_, rfl⟩
  rw [hrv]
  have HRv := Lib.hid hrv
  clear hrv
  have HV := Lib.hid hv
  have HW := Lib.hid hw
  have HL := Lib.hid hl
  have HMk := Lib.hid hmk
  obtain ⟨ao, cap, rfl, _, _, _⟩ := id hv
  clear hv hw hl hmk
  go_enter Tryz.func92, Tryz.ntmps92
  go_wp2_with fail
  obtain ⟨w2, hw2⟩ : ∃ w2, Lib.bytesWorld w1 5 ts = w2 := ⟨_, rfl⟩
  obtain ⟨g, hg⟩ : ∃ g, w1.heap.size = g := ⟨_, rfl⟩
  obtain ⟨gc, hgc⟩ : ∃ gc, grownCap w1 ts.size 0 5 = gc := ⟨_, rfl⟩
  have HA2 := Lib.hid (show Adds w w2 by rw [← hw2]; exact Adds.trans HA1.out (str_adds8 _ _))
  have hB2 := str_bytes8 w1 ts (by have := HTz.out; have := HMk.out; omega)
  rw [hw2, hg, hgc, HTd.out] at hB2
  rw [hw2, hg, hgc]
  obtain ⟨k2, hk2⟩ : ∃ k2, mk.length + 1 = k2 := ⟨_, rfl⟩
  rw [HTz.out, hk2] at hB2 ⊢
  have HK2 := Lib.hid hk2
  have HB2 := Lib.hid hB2
  have hV2 := HV.out.here.below HA2.out
  obtain ⟨v', hb, hcut⟩ := cutP8 ao (some ⟨g, 0, none⟩) l.length cap k2 gc l (32 :: mk) w2 hV2 HB2.out
  clear hw2 hg hgc hk2 hB2 hrs i2 hV2 hw1 hts q1
  obtain ⟨is, his⟩ : ∃ is, isP (32 :: mk) l = is := ⟨_, rfl⟩
  have HBl := Lib.hid (behindP_len (32 :: mk) l)
  have HWd := Lib.hid (show rv = if is then match Lib.parseUintB 32 (digsOf (behindP (32 :: mk) l)) with | .ok u => some (u, mk.length + 1 + (digsOf (behindP (32 :: mk) l)).length) | _ => none else none by rw [← HRv.out]; unfold wordN; rw [his])
  rw [HK2.out] at HWd
  rw [his] at hcut
  clear his
  clear HRv
  generalize behindP (32 :: mk) l = bl at *
  obtain ⟨bo, bc, rfl, hbc, _, _⟩ := id hb
  have HCut := Lib.hid hcut
  clear hcut
  have HTr := Lib.hid (fun W (h : Adds w2 W) => trim8 (.slice bo bl.length bc) bl W (hb.here.below h))
  have hsp := digs_split bl
  have HSt := Lib.hid (fun W (h : Adds w2 W) => by
    have h1 := bytes_to (hb.here.below h) (digsOf bl).length (by omega)
    rw [digs_take] at h1
    exact h1.str (P := Tryz.prog) 42 9 5 Tryz.underlying42 Tryz.underlying5 Tryz.underlying9)
  have hto := slice_to8 bo bl.length bc (digsOf bl).length (by omega)
  have HPU := Lib.hid (fun W (h : Adds w W) => parseU8 (str (digsOf bl)) (by rw [str_size8]; have := HBl.out; have := HL.out; omega) W (HW.out.adds h))
  rw [show (str (digsOf bl)).data.toList = digsOf bl from rfl] at HPU
  obtain ⟨dn, hdn⟩ : ∃ dn, (digsOf bl).length = dn := ⟨_, rfl⟩
  obtain ⟨tn, htn⟩ : ∃ tn, (bl.dropWhile isD).length = tn := ⟨_, rfl⟩
  obtain ⟨bn, hbn⟩ : ∃ bn, bl.length = bn := ⟨_, rfl⟩
  rw [hdn] at HSt hto HWd hsp
  rw [htn] at HTr hsp
  rw [hbn] at HTr hto HBl hsp HCut
  have hsub : (bn : Int) - (tn : Int) = (dn : Int) := by omega
  have hb64 : (bn : Int) ≤ 65536 := by have := HBl.out; have := HL.out; omega
  have hd64 : (dn : Int) ≤ 65536 := by omega
  have hk64 : (k2 : Int) ≤ 2 := by have := HK2.out; have := HMk.out; omega
  obtain ⟨cv, hcv⟩ : ∃ cv, cutT bo bc dn = cv := ⟨_, rfl⟩
  rw [hcv] at hto HSt
  have hes := err_some
  have hen := err_none
  clear hdn htn hbn hcv hb hbc hsp
  by_cases hok : ∃ u : Nat, Lib.parseUintB 32 (digsOf bl) = .ok u
  · obtain ⟨u, hu⟩ := hok
    have hub : u < 4294967296 := by have := Lib.parseUintB_le hu; omega
    have HPU2 := Lib.hid (fun W (h : Adds w W) => (HPU.out W h).mono fun e w' h => show e = .returned (.tuple #[.int .u64 u, .nilIface]) ∧ Adds W w' from by
      obtain ⟨h1, ⟨u2, h2, _, h3⟩ | ⟨h2, _⟩⟩ := h
      · rw [hu] at h2
        obtain rfl : u = u2 := by injection h2
        exact ⟨h3, h1⟩
      · exact absurd hu (h2 u))
    rw [hu] at HWd
    clear HPU hu
    have hui : (u : Int) < 4294967296 := by omega
    cases is
    · have HR := Lib.hid (show rv = none by rw [HWd.out]; rfl)
      clear HWd
      go_wp2_with (first
      | (go_at_call 134; refine HCut.out.mono ?_; rintro e w3 ⟨rfl, rfl⟩)
      | (go_at_call 135; refine (HTr.out _ (Below.refl _ _)).mono ?_; rintro e w4 ⟨p, c, rfl, q⟩; have H4 := Lib.hid q; have hst := HSt.out _ q; clear q)
      | (go_at_call 136; refine (HPU2.out _ (Adds.trans HA2.out H4.out)).mono ?_; rintro e w5 ⟨rfl, q⟩; have H5 := Lib.hid (Adds.trans HA2.out (Adds.trans H4.out q)); clear q))
      go_ret3
      exact ⟨by rw [HR.out]; rfl, H5.out⟩
    · have HR := Lib.hid (show rv = some (u, k2 + dn) by rw [HWd.out]; rfl)
      clear HWd
      go_wp2_with (first
      | (go_at_call 134; refine HCut.out.mono ?_; rintro e w3 ⟨rfl, rfl⟩)
      | (go_at_call 135; refine (HTr.out _ (Below.refl _ _)).mono ?_; rintro e w4 ⟨p, c, rfl, q⟩; have H4 := Lib.hid q; have hst := HSt.out _ q; clear q)
      | (go_at_call 136; refine (HPU2.out _ (Adds.trans HA2.out H4.out)).mono ?_; rintro e w5 ⟨rfl, q⟩; have H5 := Lib.hid (Adds.trans HA2.out (Adds.trans H4.out q)); clear q))
      go_ret3
      refine ⟨?_, H5.out⟩
      rw [HR.out]
      show Ending.returned (.tuple #[.int .i64 u, .int .i64 ((k2 : Int) + dn), .int .i64 0]) = _
      simp [wordV]
  · have HR := Lib.hid (show rv = none by
      rw [HWd.out]
      cases is
      · rfl
      · rcases hp : Lib.parseUintB 32 (digsOf bl) with u | _ | _
        · exact absurd ⟨u, hp⟩ hok
        · rfl
        · rfl)
    have HPU2 := Lib.hid (fun W (h : Adds w W) => (HPU.out W h).mono fun e w' h => show (∃ (n : Int) (N : Nat), e = .returned (.tuple #[.int .u64 n, .iface 267 (.pointer (some ⟨N, 0, none⟩))])) ∧ Adds W w' from by
      obtain ⟨h1, ⟨u2, h2, _, h3⟩ | ⟨_, h2⟩⟩ := h
      · exact absurd ⟨u2, h2⟩ hok
      · exact ⟨h2, h1⟩)
    clear HPU hok HWd
    cases is
    · go_wp2_with (first
      | (go_at_call 134; refine HCut.out.mono ?_; rintro e w3 ⟨rfl, rfl⟩)
      | (go_at_call 135; refine (HTr.out _ (Below.refl _ _)).mono ?_; rintro e w4 ⟨p, c, rfl, q⟩; have H4 := Lib.hid q; have hst := HSt.out _ q; clear q)
      | (go_at_call 136; refine (HPU2.out _ (Adds.trans HA2.out H4.out)).mono ?_; rintro e w5 ⟨⟨n, N, rfl⟩, q⟩; have H5 := Lib.hid (Adds.trans HA2.out (Adds.trans H4.out q)); clear q))
      go_ret3
      exact ⟨by rw [HR.out]; rfl, H5.out⟩
    · go_wp2_with (first
      | (go_at_call 134; refine HCut.out.mono ?_; rintro e w3 ⟨rfl, rfl⟩)
      | (go_at_call 135; refine (HTr.out _ (Below.refl _ _)).mono ?_; rintro e w4 ⟨p, c, rfl, q⟩; have H4 := Lib.hid q; have hst := HSt.out _ q; clear q)
      | (go_at_call 136; refine (HPU2.out _ (Adds.trans HA2.out H4.out)).mono ?_; rintro e w5 ⟨⟨n, N, rfl⟩, q⟩; have H5 := Lib.hid (Adds.trans HA2.out (Adds.trans H4.out q)); clear q))
      go_ret3
      exact ⟨by rw [HR.out]; rfl, H5.out⟩
end Go.Proofs.YtkodjmdghjcndaaGreatDoor
