/- The first word of a text: contracts. -/
import Derived.Test.YtkodjmdghjcndaaGreatDoorIW3
import Derived.Deep.MidRow
import Derived.Lib.SlBytesConst
namespace Go.Proofs.YtkodjmdghjcndaaGreatDoor
open Go Go.RowKit Go.Shelf

/-- The first word. -/
def headOf (l : List UInt8) : List UInt8 := l.takeWhile (· != 32)
theorem ix_take : ∀ l : List UInt8, (Lib.indexByte l 32 = -1 ∧ headOf l = l) ∨ ∃ k : Nat, Lib.indexByte l 32 = k ∧ k < l.length ∧ headOf l = l.take k
  | [] => .inl ⟨rfl, rfl⟩
  | b :: l => by
    unfold Lib.indexByte
    by_cases hb : b = 32
    · subst hb
      exact .inr ⟨0, by simp, by simp, by simp [headOf]⟩
    · have h1 : (b == 32) = false := by simpa using hb
      have h2 : headOf (b :: l) = b :: headOf l := by simp [headOf, hb]
      rw [h1]
      rcases ix_take l with ⟨h3, h4⟩ | ⟨k, h3, h4, h5⟩
      · rw [h3]
        exact .inl ⟨by simp, by rw [h2, h4]⟩
      · rw [h3]
        have h6 : ((k : Int) == -1) = false := by rw [beq_eq_false_iff_ne]; omega
        rw [h6]
        exact .inr ⟨k + 1, by simp, by simpa using h4, by rw [h2, h5]; rfl⟩
theorem bytes_pre8 {n : Nat} {w : World} {ao : Option Addr} {len cap : Nat} {l : List UInt8} (h : Bytes n w (.slice ao len cap) l) (k : Nat) (hk : k ≤ l.length) : Bytes n w (.slice ao k cap) (l.take k) := by
  obtain ⟨ao', cap', e, h1, h2, h3⟩ := h
  simp only [Value.slice.injEq] at e
  obtain ⟨rfl, rfl, rfl⟩ := e
  have hlen : (l.take k).length = k := by rw [List.length_take]; omega
  refine ⟨ao, cap, by rw [hlen], by omega, h2, fun h0 => ?_⟩
  obtain ⟨b, o, rfl, hb, hc⟩ := h3 (by rintro rfl; simp at h0)
  refine ⟨b, o, rfl, hb, fun i hi => ?_⟩
  rw [hlen] at hi
  rw [hc i (by omega)]
  simp [List.getD_eq_getElem?_getD, hi]
theorem cut8 {n : Nat} (a : Addr) (len cap : Nat) (l : List UInt8) (b2 d : Nat) (w : World) (h : Bytes n w (.slice (some a) len cap) l) (hs : l.length ≤ 65536) (hc : w.cell? ⟨b2, 0, none⟩ = some (.int .u8 32)) :
    ∃ v' v2 t, Bytes n w v' (headOf l) ∧ Calls Tryz.prog 132 #[.slice (some a) len cap, .slice (some ⟨b2, 0, none⟩) 1 d] w fun e w' => e = .returned (.tuple #[v', v2, .bool t]) ∧ Adds w w' := by
  obtain ⟨hl, hlc, _⟩ := bytes_len h
  have hix := Any.bytes_Index_one_at Tryz.laysBCut.index a len cap b2 0 d (ints l) 32 w (by rw [ints_length, hl]) (fun i hi => by
    obtain ⟨b, o, e, hcc⟩ := bytesIn8 h (by omega)
    cases e
    rw [add8]
    exact hcc i hi) hc
  rw [ints_bytes, show (32 : Int).toNat.toUInt8 = 32 from rfl] at hix
  have hct := fun (i : Int) (h1 : -1 ≤ i) (h2 : 0 ≤ i → i + (1 : Nat) ≤ len) (hi : Lib.indexByte l 32 = i) => Any.bytes_Cut_of Tryz.laysBCut (some a) (some ⟨b2, 0, none⟩) len cap 1 d i w hlc h1 h2 (by omega) (hix.mono fun e w' ⟨h3, h4⟩ => ⟨by rw [h3, hi], 0, h4⟩)
  have hd : ∀ q, Adds w (w.drewN q) := fun q => (Gr.drewn w q).adds
  rcases ix_take l with ⟨h3, h4⟩ | ⟨k, h3, h4, h5⟩
  · refine ⟨.slice (some a) len cap, .slice none 0 0, false, by rw [h4]; exact h, (hct (-1) (by omega) (by omega) h3).mono fun e w' ⟨h6, q, h7⟩ => ⟨h6, by rw [h7]; exact hd q⟩⟩
  · refine ⟨.slice (some a) k cap, Lib.fromV (some a) len cap (k + 1), true, by rw [h5]; exact bytes_pre8 h k (by omega), (hct k (by omega) (by omega) h3).mono fun e w' ⟨h6, q, h7⟩ => ⟨h6.trans ?_, by rw [h7]; exact hd q⟩⟩
    unfold Lib.cutV
    rw [if_pos (by omega)]
    simp

def nI (i : Nat) : ByteArray := str (nmIB.getD i [])
def nIV (i : Nat) : Value := .string (nI i)
def nIA : Array Value := #[nIV 0, nIV 1, nIV 2, nIV 3, nIV 4, nIV 5, nIV 6, nIV 7, nIV 8, nIV 9, nIV 10, nIV 11, nIV 12, nIV 13, nIV 14, nIV 15, nIV 16, nIV 17, nIV 18, nIV 19]
theorem nI_ix (j : Nat) (hj : j < 20) (W : World) : (Instr.index 126 (.agg nIA) (.int .i64 j)).run Tryz.prog W = .ok (nIV j) W := by
  match j, hj with
  | 0, _ => show _ = _; kernel_rfl
  | 1, _ => show _ = _; kernel_rfl
  | 2, _ => show _ = _; kernel_rfl
  | 3, _ => show _ = _; kernel_rfl
  | 4, _ => show _ = _; kernel_rfl
  | 5, _ => show _ = _; kernel_rfl
  | 6, _ => show _ = _; kernel_rfl
  | 7, _ => show _ = _; kernel_rfl
  | 8, _ => show _ = _; kernel_rfl
  | 9, _ => show _ = _; kernel_rfl
  | 10, _ => show _ = _; kernel_rfl
  | 11, _ => show _ = _; kernel_rfl
  | 12, _ => show _ = _; kernel_rfl
  | 13, _ => show _ = _; kernel_rfl
  | 14, _ => show _ = _; kernel_rfl
  | 15, _ => show _ = _; kernel_rfl
  | 16, _ => show _ = _; kernel_rfl
  | 17, _ => show _ = _; kernel_rfl
  | 18, _ => show _ = _; kernel_rfl
  | 19, _ => show _ = _; kernel_rfl
  | j + 20, h => exact absurd h (by omega)
theorem wp_names (ops : Array Oper) (rest : List Oper) (op : Oper) (a : Act) (w : World) (Q : Exit → Act → World → Prop) (hgd : op.guard = none) (x : Operand) (ho : op.op = .load 126 x)
    (hx : a.eval x = .pointer (some ⟨0, 0, none⟩)) (h : NamesI w) (hk : wpList Tryz.prog ops Q rest (a.put op.dst (.agg nIA)) w) : wpList Tryz.prog ops Q (op :: rest) a w := by
  refine wpList_load_mid hgd 126 x ho 0 0 hx nIA.toList _ (fun j v hv => ?_) Tryz.underlying126 rfl (by kernel_rfl) hk
  rw [Nat.zero_add]
  have hj : j < 20 := (List.getElem?_eq_some_iff.1 hv).1
  rw [h j hj]
  have e : ∀ j, j < 20 → nIA.toList[j]? = some (nIV j) := fun j hj => by
    match j, hj with
    | 0, _ | 1, _ | 2, _ | 3, _ | 4, _ | 5, _ | 6, _ | 7, _ | 8, _ | 9, _ | 10, _ | 11, _ | 12, _ | 13, _ | 14, _ | 15, _ | 16, _ | 17, _ | 18, _ | 19, _ => rfl
    | k + 20, h => exact absurd h (by omega)
  rw [e j hj] at hv
  exact hv
/-- The Op of a name, among the first k. -/
def opN (s : ByteArray) : Nat → Nat
  | 0 => 0
  | k + 1 => if opN s k ≠ 0 then opN s k else if nI k = s then k else 0
theorem opN_no {s : ByteArray} {k : Nat} (h : opN s k = 0) (hn : nI k ≠ s) : opN s (k + 1) = 0 := by simp [opN, h, hn]
theorem opN_yes {s : ByteArray} {k : Nat} (h : opN s k = 0) (hn : nI k = s) : opN s (k + 1) = k := by simp [opN, h, hn]
theorem opN_stay {s : ByteArray} {k : Nat} (h : opN s k ≠ 0) : ∀ d, opN s (k + d) = opN s k
  | 0 => rfl
  | d + 1 => by
    have := opN_stay h d
    rw [← Nat.add_assoc, opN, if_pos (by rw [this]; exact h), this]
theorem opN_hit {s : ByteArray} {k : Nat} (hk : k < 20) (h0 : k ≠ 0) (h : opN s k = 0) (hn : nI k = s) : opN s 20 = k := by
  have h1 := opN_yes h hn
  have h2 := opN_stay (k := k + 1) (by rw [h1]; exact h0) (20 - (k + 1))
  rw [show k + 1 + (20 - (k + 1)) = 20 by omega] at h2
  rw [h2, h1]
theorem pN_le (s : ByteArray) : ∀ k, pN s k ≤ k
  | 0 => Nat.le_refl _
  | k + 1 => by
    have := pN_le s k
    unfold pN
    split
    · omega
    · split <;> omega
/-- What the first word of a text says. -/
def begunN (k m : Nat) (s : ByteArray) : Option (In × Nat) :=
  if k ≠ 0 then some ((3, 0, 0, 0, (k : Int)), s.size) else if s ≠ str [] ∧ m ≠ 0 then some (((m : Int), 0, 0, 0, 0), s.size) else none
def begunS (s : ByteArray) : Option (In × Nat) := begunN (pN s 12) (opN s 20) s
def begunI (l : List UInt8) : Option (In × Nat) := begunS (str (headOf l))
def begunV (r : Option (In × Nat)) : Value := match r with | some (x, k) => .tuple #[insV x, .int .i64 k, .int .i64 0] | none => .tuple #[insV (0, 0, 0, 0, 0), .int .i64 0, .int .i64 180]
theorem str_inj {a b : List UInt8} (h : str a = str b) : a = b := by
  have := congrArg (fun s => s.data.toList) h
  simpa [str] using this
theorem empty_no {y : ByteArray} (h : ¬ y = str []) : y.toList.isEmpty = false := by
  cases hl : y.toList with
  | nil =>
    rw [ByteArray.toList_eq] at hl
    exact absurd (ByteArray.ext (Array.toList_inj.1 hl)) h
  | cons a t => rfl
theorem nI_zero : nI 0 = str [] := rfl
set_option maxRecDepth 100000 in
set_option maxHeartbeats 8000000 in
theorem begun8 {n : Nat} (a : Addr) (len cap : Nat) (l : List UInt8) (w : World) (h : Bytes n w (.slice (some a) len cap) l) (hs : l.length ≤ 65536) (hw : IVars w) :
    Calls Tryz.prog 89 #[.slice (some a) len cap] w fun e w' => e = .returned (begunV (begunI l)) ∧ Adds w w' := by
  have HV := Lib.hid h
  have HW := Lib.hid hw
  have HL := Lib.hid hs
  obtain ⟨w1, hw1⟩ : ∃ w1, w.alloc (.cells #[.int .i64 0, .int .i64 0, .int .i64 0, .int .i64 0, .int .u32 0] 25) = w1 := ⟨_, rfl⟩
  have HA1 := Lib.hid (show Adds w w1 by rw [← hw1]; exact (Gr.new _ _).adds)
  have HB1 := Lib.hid (show BkS 25 w1 w.heap.size [.int .i64 0, .int .i64 0, .int .i64 0, .int .i64 0, .int .u32 0] by rw [← hw1]; exact BkS.new _ _ _)
  obtain ⟨g2, hg2⟩ : ∃ g2, w1.heap.size = g2 := ⟨_, rfl⟩
  obtain ⟨w2, hw2⟩ : ∃ w2, w1.alloc (.cells #[.int .u8 32] 5 (1, 2)) = w2 := ⟨_, rfl⟩
  have HA2 := Lib.hid (show Adds w w2 by rw [← hw2]; exact Adds.trans HA1.out (Gr.new _ _).adds)
  have HB2 := Lib.hid (show BkS 25 w2 w.heap.size [.int .i64 0, .int .i64 0, .int .i64 0, .int .i64 0, .int .u32 0] by rw [← hw2]; exact HB1.out.adds (Gr.new _ _).adds)
  have HC2 := Lib.hid (show w2.cell? ⟨g2, 0, none⟩ = some (.int .u8 32) by rw [← hw2, ← hg2]; exact cell_of_row _ _ 0 _ _ _ (heap_new _ _))
  have hid : (convert 42 42 (.slice (some ⟨g2, 0, none⟩) 1 1)).run Tryz.prog (w1.alloc (.cells #[.int .u8 32] 5)) = .ok (.slice (some ⟨g2, 0, none⟩) 1 1) w2 := by
    rw [← hw2, ← hg2]
    exact Lib.run_convert_bytes_const w1 42 5 _ 1 1 Tryz.underlying42 Tryz.underlying5
  clear hw2
  obtain ⟨v', v2, t, hb, hct⟩ := cut8 a len cap l g2 1 w2 (h.here.below HA2.out) hs HC2.out
  have HCt := Lib.hid hct
  have HSt := Lib.hid (fun W (h : Adds w2 W) => (hb.here.below h).str (P := Tryz.prog) 42 9 5 Tryz.underlying42 Tryz.underlying5 Tryz.underlying9)
  unfold begunI
  have hz64 : ((str (headOf l)).size : Int) ≤ 65536 := by rw [str_size8]; have : (headOf l).length ≤ l.length := (List.takeWhile_prefix _).length_le; omega
  clear hct hb h hw hs
  generalize str (headOf l) = s at *
  have HPa := Lib.hid (fun W (h : Adds w W) => parse_any s W (HW.out.adds h).kin)
  unfold ParsePost at HPa
  have hple := pN_le s 12
  unfold begunS
  obtain ⟨k, hk⟩ : ∃ k, pN s 12 = k := ⟨_, rfl⟩
  rw [hk] at HPa hple ⊢
  have HHk := Lib.hid hk
  clear hk
  obtain ⟨m, hm⟩ : ∃ m, opN s 20 = m := ⟨_, rfl⟩
  rw [hm]
  have HM := Lib.hid hm
  clear hm
  obtain ⟨rv, hrv⟩ : ∃ rv, begunN k m s = rv := ⟨_, rfl⟩
  rw [hrv]
  have HRv := Lib.hid hrv
  clear hrv
  obtain ⟨k0, hk0⟩ : ∃ k0, w.heap.size = k0 := ⟨_, rfl⟩
  have HK0 := Lib.hid hk0
  rw [hk0] at HB1 HB2
  by_cases hk1 : k = 0
  · subst hk1
    rw [if_pos rfl] at HPa
    have HR := Lib.hid (show rv = if s ≠ str [] ∧ m ≠ 0 then some ((((m : Int), 0, 0, 0, 0) : In), s.size) else none by rw [← HRv.out]; simp [begunN])
    clear HRv
    clear hple
    have HIX := Lib.hid nI_ix
    have HLd := Lib.hid wp_names
    obtain ⟨A0, hA0⟩ : ∃ A0, nIA = A0 := ⟨_, rfl⟩
    rw [hA0] at HIX HLd
    clear hA0
    go_enter Tryz.func89, Tryz.ntmps89
    go_wp2_with (first
      | (go_at_call 132; refine HCt.out.mono ?_; rintro e w3 ⟨rfl, q⟩; have H3 := Lib.hid q; have hst := HSt.out _ q; clear q)
      | (go_at_call 133; refine (HPa.out _ (Adds.trans HA2.out H3.out)).mono ?_; rintro e w4 ⟨rfl, q⟩; have H4 := Lib.hid (Adds.trans HA2.out (Adds.trans H3.out q)); have k4 := HB2.out.adds (Adds.trans H3.out q); have HK := Lib.hid k4; clear q k4 hst; have HN4 := Lib.hid (HW.out.adds H4.out).nam)
      | (refine HLd.out _ _ _ _ _ _ rfl _ rfl rfl HN4.out ?_))
    go_loopw [36] (fun i wr => ∃ j : Nat, i = .int .i64 j ∧ j ≤ 20 ∧ wr = w4 ∧ Hid (s = str [] ∨ opN s j = 0)) (fun i _ => 21 - (intOf i).toNat)
    case atStart => exact ⟨0, rfl, Nat.zero_le _, rfl, Lib.hid (.inr rfl)⟩
    case round =>
      obtain ⟨j, rfl, hj, rfl, HJ⟩ := hrel
      have c0 : wr.cell? ⟨k0, 0, none⟩ = some (.int .i64 0) := HK.out.cell 0
      have c1 : wr.cell? ⟨k0, 1, none⟩ = some (.int .i64 0) := HK.out.cell 1
      have c2 : wr.cell? ⟨k0, 2, none⟩ = some (.int .i64 0) := HK.out.cell 2
      have c3 : wr.cell? ⟨k0, 3, none⟩ = some (.int .i64 0) := HK.out.cell 3
      have c4 : wr.cell? ⟨k0, 4, none⟩ = some (.int .u32 0) := HK.out.cell 4
      have f0 := HK.out.free 0
      have f1 := HK.out.free 1
      have f2 := HK.out.free 2
      have f3 := HK.out.free 3
      have f4 := HK.out.free 4
      by_cases hlt : j < 20
      · have hix := HIX.out j hlt
        have hltI : (j : Int) < 20 := by omega
        obtain ⟨y, hy⟩ : ∃ y, nI j = y := ⟨_, rfl⟩
        rw [show nIV j = .string y by rw [← hy]; rfl] at hix
        have HY := Lib.hid hy
        have HLt := Lib.hid hlt
        clear hy hlt hj
        by_cases he : y = s
        · subst he
          by_cases hz : y = str []
          · have hq : y.toList.isEmpty = true := by rw [hz, ByteArray.toList_eq]; rfl
            have HZ := Lib.hid hz
            clear hz
            go_wp2_with fail
            go_roundw
            case rel => exact ⟨j + 1, by go_num, HLt.out, (by first | rfl | trivial), Lib.hid (.inl HZ.out)⟩
            case measure => simp [intOf]; have := HLt.out; omega
          · have hq : y.toList.isEmpty = false := empty_no hz
            have h0 := HJ.out.resolve_left hz
            have hj0 : j ≠ 0 := fun e => hz (by rw [← HY.out, e]; exact nI_zero)
            have hm : m = j := by rw [← HM.out]; exact opN_hit HLt.out hj0 h0 HY.out
            have HR2 := Lib.hid (show rv = some ((((j : Int), 0, 0, 0, 0) : In), y.size) by rw [HR.out, if_pos ⟨hz, by rw [hm]; exact hj0⟩, hm])
            clear hz h0 hj0 hm
            go_wp2_with fail
            have hb := (((((HK.out.set 0 (.int .i64 (j : Int))).set 1 (.int .i64 0)).set 2 (.int .i64 0)).set 3 (.int .i64 0)).set 4 (.int .u32 0))
            refine bodyPost_ret (res_box3 rfl _ _ _ (insC ((j : Int), 0, 0, 0, 0)).toArray _ _ _ rfl hb Tryz.underlying25 rfl (by kernel_rfl)) rfl ?_
            refine ⟨by rw [HR2.out]; rfl, TnS.own H4.out (Nat.le_of_eq HK0.out) (((((TnS.setCell _ _ _ _).trans (TnS.setCell _ _ _ _)).trans (TnS.setCell _ _ _ _)).trans (TnS.setCell _ _ _ _)).trans (TnS.setCell _ _ _ _))⟩
        · have hne : (y.toList == s.toList) = false := beq_no he
          have HE := Lib.hid he
          clear he
          go_wp2_with fail
          go_roundw
          case rel => exact ⟨j + 1, by go_num, HLt.out, (by first | rfl | trivial), Lib.hid (HJ.out.elim .inl fun h => .inr (opN_no h (by rw [HY.out]; exact HE.out)))⟩
          case measure => simp [intOf]; have := HLt.out; omega
      · obtain rfl : j = 20 := by omega
        have HR2 := Lib.hid (show rv = none by
          rw [HR.out, if_neg]
          rintro ⟨h1, h2⟩
          exact h2 (by rw [← HM.out]; exact HJ.out.resolve_left h1))
        clear hlt hj
        go_wp2_with fail
        have hb := (((((HK.out.set 0 (.int .i64 0)).set 1 (.int .i64 0)).set 2 (.int .i64 0)).set 3 (.int .i64 0)).set 4 (.int .u32 0))
        refine bodyPost_ret (res_box3 rfl _ _ _ (insC (0, 0, 0, 0, 0)).toArray _ _ _ rfl hb Tryz.underlying25 rfl (by kernel_rfl)) rfl ?_
        refine ⟨by rw [HR2.out]; rfl, TnS.own H4.out (Nat.le_of_eq HK0.out) (((((TnS.setCell _ _ _ _).trans (TnS.setCell _ _ _ _)).trans (TnS.setCell _ _ _ _)).trans (TnS.setCell _ _ _ _)).trans (TnS.setCell _ _ _ _))⟩
  · rw [if_neg hk1] at HPa
    have hkm : (k : Int) % 4294967296 = k := by omega
    have HR := Lib.hid (show rv = some (((3, 0, 0, 0, (k : Int)) : In), s.size) by rw [← HRv.out]; simp [begunN, hk1])
    clear HRv
    clear hple hk1
    go_enter Tryz.func89, Tryz.ntmps89
    go_wp2_with (first
      | (go_at_call 132; refine HCt.out.mono ?_; rintro e w3 ⟨rfl, q⟩; have H3 := Lib.hid q; have hst := HSt.out _ q; clear q)
      | (go_at_call 133; refine (HPa.out _ (Adds.trans HA2.out H3.out)).mono ?_; rintro e w4 ⟨rfl, q⟩; have H4 := Lib.hid (Adds.trans HA2.out (Adds.trans H3.out q)); have k4 := HB2.out.adds (Adds.trans H3.out q); have HK := Lib.hid k4; have c0 : w4.cell? ⟨k0, 0, none⟩ = some (.int .i64 0) := k4.cell 0; have c1 : w4.cell? ⟨k0, 1, none⟩ = some (.int .i64 0) := k4.cell 1; have c2 : w4.cell? ⟨k0, 2, none⟩ = some (.int .i64 0) := k4.cell 2; have c3 : w4.cell? ⟨k0, 3, none⟩ = some (.int .i64 0) := k4.cell 3; have c4 : w4.cell? ⟨k0, 4, none⟩ = some (.int .u32 0) := k4.cell 4; have f0 := k4.free 0; have f1 := k4.free 1; have f2 := k4.free 2; have f3 := k4.free 3; have f4 := k4.free 4; clear q k4 hst))
    have hb := (((((HK.out.set 0 (.int .i64 3)).set 1 (.int .i64 0)).set 2 (.int .i64 0)).set 3 (.int .i64 0)).set 4 (.int .u32 (k : Int)))
    refine bodyPost_ret (res_box3 rfl _ _ _ (insC (3, 0, 0, 0, (k : Int))).toArray _ _ _ rfl hb Tryz.underlying25 rfl (by kernel_rfl)) rfl ?_
    refine ⟨by rw [HR.out]; rfl, TnS.own H4.out (Nat.le_of_eq HK0.out) (((((TnS.setCell _ _ _ _).trans (TnS.setCell _ _ _ _)).trans (TnS.setCell _ _ _ _)).trans (TnS.setCell _ _ _ _)).trans (TnS.setCell _ _ _ _))⟩
end Go.Proofs.YtkodjmdghjcndaaGreatDoor
