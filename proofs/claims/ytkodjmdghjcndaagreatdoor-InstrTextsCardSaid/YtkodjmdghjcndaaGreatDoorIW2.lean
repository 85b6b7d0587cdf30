/- Digits trimmed, digits as a number: contracts in plain words. -/
import Derived.Test.YtkodjmdghjcndaaGreatDoorIW1
namespace Go.Proofs.YtkodjmdghjcndaaGreatDoor
open Go Go.RowKit Go.Shelf

/-- A digit. -/
def isD (b : UInt8) : Bool := digs.contains b
theorem drop_isD {b : UInt8} {t : List UInt8} (h : isD b = true) : (b :: t).dropWhile isD = t.dropWhile isD := by simp [h]
theorem drop_noD {b : UInt8} {t : List UInt8} (h : isD b = false) : (b :: t).dropWhile isD = b :: t := by simp [h]
theorem bytes_tail {n : Nat} {w : World} {ao : Option Addr} {len cap : Nat} {b : UInt8} {t : List UInt8} (h : Bytes n w (.slice ao len cap) (b :: t)) :
    ∃ g o, ao = some ⟨g, o, none⟩ ∧ w.cell? ⟨g, o, none⟩ = some (.int .u8 b.toNat) ∧ len = t.length + 1 ∧ Bytes n w (.slice (if cap = 1 then some ⟨g, o, none⟩ else some ⟨g, o + 1, none⟩) t.length (cap - 1)) t := by
  obtain ⟨hl, hlc, _⟩ := bytes_len h
  have hs := h.sliced 1 len cap (by simp at hl; omega) (Nat.le_refl _) hlc (Nat.le_refl _)
  rw [List.drop_one, List.tail_cons, List.take_of_length_le (by simp at hl; omega)] at hs
  obtain ⟨ao', cap', e, _, _, h3⟩ := h
  simp only [Value.slice.injEq] at e
  obtain ⟨rfl, _, rfl⟩ := e
  obtain ⟨g, o, rfl, _, hc⟩ := h3 (by simp)
  exact ⟨g, o, rfl, by simpa [byteV] using hc 0 (by simp), by simpa using hl, by simpa [add8, hl] using hs⟩
theorem slice_one8 (ao : Option Addr) (len cap : Nat) (hi : 1 ≤ len) (w : World) :
    (Instr.slice 42 (.slice ao len cap) (some (.int .i64 1)) none none).run Tryz.prog w = .ok (.slice (if cap = 1 then ao else ao.map (·.add (1 * 1))) (len - 1) (cap - 1)) w := by
  have h := run_slice_l (P := Tryz.prog) w 42 ao len cap (by kernel_rfl) .i64 1 (by omega) (by omega)
  rw [h]
  have hs : (sizeOf (Tryz.prog.elem 42)).run Tryz.prog w = .ok 1 w := by
    obtain ⟨i0, hi, hz0, hz1, hz2⟩ := info_parts info8
    have e : Tryz.prog.elem 42 = 5 := by kernel_rfl
    rw [e]
    simp [sizeOf, typeInfo, hi, hz1]
  rw [hs]
  simp only [Result.andThen, sliced]
  rfl
def lenOf8 : Value → Nat | .slice _ n _ => n | _ => 0
set_option maxRecDepth 100000 in
theorem trimA8 {n : Nat} (v : Value) (l : List UInt8) (b : Nat) (w : World) (hv : Bytes n w v l) (hb : w.heap[b]? = some (.cells (Lib.setCells digs) 237)) :
    Calls Tryz.prog 169 #[v, .pointer (some ⟨b, 0, none⟩)] w fun e w' => ∃ p c, e = .returned (.slice p (l.dropWhile isD).length c) ∧ w = w' := by
  have hcell : ∀ x : UInt8, w.cell? ⟨b, x.toNat, none⟩ = some (.bool (isD x)) := fun x => by
    rw [cell_of_row w b x.toNat _ _ _ hb]
    exact Lib.setCells_at digs x
  have HH := Lib.hid (fun x => has8 b x (isD x) w (hcell x))
  clear hb hcell
  obtain ⟨ao, cap, rfl, _, _, _⟩ := id hv
  have HV := Lib.hid hv
  clear hv
  go_enter Tryz.func169, Tryz.ntmps169
  go_wp2_with fail
  go_loopw [0] (fun s wr => wr = w ∧ ∃ (l2 : List UInt8) (ao2 : Option Addr) (c2 : Nat), s = .slice ao2 l2.length c2 ∧ Hid (Bytes n w (.slice ao2 l2.length c2) l2) ∧ Hid (l2.dropWhile isD = l.dropWhile isD)) (fun s _ => lenOf8 s)
  case atStart => exact ⟨rfl, l, ao, cap, rfl, HV, Lib.hid rfl⟩
  case round =>
    obtain ⟨rfl, l2, ao2, c2, rfl, H2, HE⟩ := hrel
    rcases l2 with _ | ⟨x, t⟩
    · have hz : ¬ ((0 : Int) < (([] : List UInt8).length : Int)) := by simp
      go_wp2_with fail
      go_ret
      exact ⟨⟨none, 0, by rw [← HE.out]; rfl⟩, rfl⟩
    · obtain ⟨g, o, rfl, hc, hl, ht⟩ := bytes_tail H2.out
      have HT := Lib.hid ht
      have hz : (0 : Int) < ((x :: t).length : Int) := by simp
      have hs1 := slice_one8 (some ⟨g, o, none⟩) (x :: t).length c2 (by simp)
      have HHx := Lib.hid (HH.out x)
      have HL := Lib.hid hl
      have hx1 := drop_isD (b := x) (t := t)
      have hx0 := drop_noD (b := x) (t := t)
      clear ht hl
      cases hx : isD x
      · have HD := Lib.hid ((hx0 hx).symm.trans HE.out)
        rw [hx] at HHx
        clear hx hx0 hx1
        go_wp2_with (go_at_call 198; refine HHx.out.mono ?_; rintro e w2 ⟨rfl, rfl⟩)
        have hn : ¬ ((t.length : Int) + 1 = 0) := by omega
        go_wp2_with fail
        go_ret
        exact ⟨some ⟨g, o, none⟩, c2, by rw [← HD.out]; rfl, rfl⟩
      · have HD := Lib.hid ((hx1 hx).symm.trans HE.out)
        rw [hx] at HHx
        clear hx hx0 hx1
        go_wp2_with (go_at_call 198; refine HHx.out.mono ?_; rintro e w2 ⟨rfl, rfl⟩)
        exact ⟨⟨trivial, t, _, _, rfl, HT, HD⟩, by simp [lenOf8]⟩
theorem digs_ascii (j : Nat) (b : UInt8) (h : digs[j]? = some b) : b.toNat < 128 := by
  have h2 : ∀ x ∈ digs, x.toNat < 128 := by decide
  exact h2 b (List.mem_of_getElem? h)
set_option maxRecDepth 100000 in
/-- Digits trimmed: how many bytes are left. -/
theorem trim8 {n : Nat} (v : Value) (l : List UInt8) (w : World) (hv : Bytes n w v l) :
    Calls Tryz.prog 135 #[v, .string (str digs)] w fun e w' => ∃ p c, e = .returned (.slice p (l.dropWhile isD).length c) ∧ Adds w w' := by
  have HS := Lib.hid (fun W => set8 (str digs) W (by decide) (fun j b h => digs_ascii j b h))
  have HT := Lib.hid (fun W (h : Adds w W) b hb => trimA8 v l b W (hv.here.below h) hb)
  have hd : (str digs).size = 10 := by decide
  obtain ⟨ao, cap, rfl, _, _, _⟩ := hv
  rcases l with _ | ⟨x, t⟩
  · clear HT HS
    go_enter Tryz.func135, Tryz.ntmps135
    go_wp2_with fail
    go_ret
    exact ⟨none, 0, rfl, (Below.refl _ _)⟩
  · have hz : (((x :: t).length : Int) == 0) = false := by simp; omega
    have hz2 : ¬ (((x :: t).length : Int) = 0) := by simp; omega
    have he : (str digs).toList.isEmpty = false := by rw [Lib.toList_data]; rfl
    have HC := Lib.hid (show Lib.setCells (str digs).data.toList = Lib.setCells digs from rfl)
    generalize hk : (x :: t).length = k at *
    generalize hl : ((x :: t).dropWhile isD).length = m at *
    rw [HC.out] at HS
    obtain ⟨C, hC⟩ : ∃ C, Lib.setCells digs = C := ⟨_, rfl⟩
    have hsz : C.size = 256 := by rw [← hC]; exact Lib.setCells_size _
    have hone : C.all (·.oneCell') = true := by rw [← hC]; exact Lib.setCells_one _
    rw [hC] at HS HT
    have hsc := fun W => run_storeCells_new (P := Tryz.prog) W 237 Tryz.zeroCells237 C (by rw [hsz]; exact info_set) (by rw [hsz]; rfl) hone
    clear hC HC hone hk hl
    go_enter Tryz.func135, Tryz.ntmps135
    go_wp2_with (first
      | (go_at_call 168; refine (HS.out _).mono ?_; rintro e w2 ⟨rfl, q⟩; have H2 := Lib.hid q.adds; clear q)
      | (go_at_call 169; refine (HT.out _ (Adds.trans H2.out (Gr.new _ _).adds) _ (heap_new _ _)).mono ?_; rintro e w3 ⟨p, c, rfl, rfl⟩))
    go_ret
    exact ⟨p, c, rfl, Adds.trans H2.out (Gr.new _ _).adds⟩
/-- What is told of digits that are read: the number and no error; or an error. -/
def NumOr8 (l : List UInt8) (w : World) (e : Ending) (w' : World) : Prop :=
  Adds w w' ∧ ((∃ u : Nat, Lib.parseUintB 32 l = .ok u ∧ u < 4294967296 ∧ e = .returned (.tuple #[.int .u64 u, .nilIface])) ∨
    ((∀ u, Lib.parseUintB 32 l ≠ .ok u) ∧ ∃ (n : Int) (N : Nat), e = .returned (.tuple #[.int .u64 n, .iface 267 (.pointer (some ⟨N, 0, none⟩))])))
theorem parseU8 (s : ByteArray) (hs : s.size ≤ 281474976710656) (w : World) (hv : IVars w) :
    Calls Tryz.prog 136 #[.string s, .int .i64 10, .int .i64 32] w (NumOr8 s.data.toList w) := by
  rcases h : Lib.parseUintB 32 s.data.toList with u | _ | _
  · refine (Any.strconv_ParseUint_10_at32_ok Tryz.laysPU s (by omega) u h w).mono fun e w' ⟨h1, h2⟩ => ⟨?_, .inl ⟨u, h, ?_, h1⟩⟩
    · rcases h2 with rfl | rfl
      · exact Below.refl _ _
      · exact Lib.bytesWorld_below _ _ _
    · have := Lib.parseUintB_le h
      omega
  · obtain ⟨tp, p, hc⟩ := hv.syn
    exact (Any.strconv_ParseUint_10_at32_syntax Tryz.laysPU s hs h _ w hc (.inr ⟨tp, p, rfl⟩)).mono fun e w' ⟨N, h1, _, _, h2⟩ => ⟨h2, .inr ⟨(by intro u hu; rw [h] at hu; cases hu), 0, N, h1⟩⟩
  · obtain ⟨tp, p, hc⟩ := hv.rng
    exact (Any.strconv_ParseUint_10_at32_range Tryz.laysPU s hs h _ w hc (.inr ⟨tp, p, rfl⟩)).mono fun e w' ⟨N, h1, _, _, h2⟩ => ⟨h2, .inr ⟨(by intro u hu; rw [h] at hu; cases hu), _, N, h1⟩⟩
end Go.Proofs.YtkodjmdghjcndaaGreatDoor
