/- Merged: M13. -/
import Derived.Test.YthhegcngkpfcoaaGreatDoorF40
import Derived.Test.YthhegcngkpfcoaaGreatDoorF41
import Derived.OwnWalkIn
namespace Go.Proofs.YthhegcngkpfcoaaGreatDoor
open Go Go.RowKit Go.Shelf Go.Lib

theorem mnumI {n : Nat} (br : Nat) (v : Value) (l : List UInt8) (k many : Nat) (w : World) (hn : n ≤ br) (hg : 1 < n) (hv : Bytes n w v l) (hw : Widths w) (hr : BkS 68 w br (rdC v k)) (hk : k ≤ l.length) (hm : isW many) (hm7 : many ≤ 7) :
    Calls Tryz.prog 44 #[takeF br, .int .i64 (many : Int)] w (RkPost (numK l k many) (fun x : Nat => .int .i64 (x : Int)) br v w) := by
  unfold numK
  by_cases h : l.length < k + many
  · rw [if_pos h]
    exact (mnumI_no br v l k many w hv hr hk h).mono fun e w' h => h
  · rw [if_neg h]
    exact (mnumI_yes br v l k many w hn hg hv hw hr (by omega) hm hm7).mono fun e w' h => h
theorem mnumU {n : Nat} (br : Nat) (v : Value) (l : List UInt8) (k many : Nat) (w : World) (hn : n ≤ br) (hg : 1 < n) (hv : Bytes n w v l) (hw : Widths w) (hr : BkS 68 w br (rdC v k)) (hk : k ≤ l.length) (hm : isW many) :
    Calls Tryz.prog 48 #[takeF br, .int .i64 (many : Int)] w (RkPost (numK l k many) (fun x : Nat => .int .u64 (x : Int)) br v w) := by
  unfold numK
  by_cases h : l.length < k + many
  · rw [if_pos h]
    exact (mnumU_no br v l k many w hv hr hk h).mono fun e w' h => h
  · rw [if_neg h]
    exact (mnumU_yes br v l k many w hn hg hv hw hr (by omega) hm).mono fun e w' h => h
/-- What the reader stands upon. -/
structure RdOk (n br : Nat) (v : Value) (l : List UInt8) (k : Nat) (w : World) : Prop where
  hn : n ≤ br
  hg : 1 < n
  hv : Bytes n w v l
  hw : Widths w
  hr : BkS 68 w br (rdC v k)
  hk : k ≤ l.length
theorem RdOk.next {n br k k2 : Nat} {v : Value} {l : List UInt8} {w w' : World} (h : RdOk n br v l k w) (ht : TnS br w w') (hr : BkS 68 w' br (rdC v k2)) (hk : k2 ≤ l.length) : RdOk n br v l k2 w' := by
  have hb := ht.below8 h.hn (by have := h.hr.lt; have := h.hn; omega)
  exact ⟨h.hn, h.hg, h.hv.below hb, h.hw.low hb h.hg, hr, hk⟩
theorem RdOk.adds {n br k : Nat} {v : Value} {l : List UInt8} {w w' : World} (h : RdOk n br v l k w) (ha : Adds w w') : RdOk n br v l k w' := h.next (TnS.of_adds br ha) (h.hr.adds ha) h.hk
theorem RdOk.num {n br k : Nat} {v : Value} {l : List UInt8} {w : World} (h : RdOk n br v l k w) (many : Nat) (hm : isW many) (hm7 : many ≤ 7) :
    Calls Tryz.prog 44 #[takeF br, .int .i64 (many : Int)] w (RkPost (numK l k many) (fun x : Nat => .int .i64 (x : Int)) br v w) := mnumI br v l k many w h.hn h.hg h.hv h.hw h.hr h.hk hm hm7
theorem RdOk.ins {n br k : Nat} {v : Value} {l : List UInt8} {w : World} (h : RdOk n br v l k w) : Calls Tryz.prog 70 #[.pointer (some ⟨br, 0, none⟩)] w (RkPost (insK l k) insV br v w) :=
  mins br v l k w (by have := h.hr.lt; have := h.hn; omega) h.hv h.hw h.hr h.hk
def FnPost (r : (Fu × Nat) ⊕ Int) (br : Nat) (v : Value) (w : World) (e : Ending) (w' : World) : Prop :=
  match r with
  | .inl (f, k) => (∃ cv, e = .returned (.agg #[.int .i64 f.1, cv]) ∧ CodeO w.heap.size w' cv f.2) ∧ BkS 68 w' br (rdC v k) ∧ TnS br w w'
  | .inr er => e = .panicked [{ v := .iface 70 (.int .i64 er), recovered := false }] ∧ TnS br w w'
theorem own_neT {w : World} {base b : Nat} {e t : TypeId} {size n : Nat} {v : Value} {xs l : List Value} (h : w.ownsRow base e size v n xs) (hb : BkS t w b l) (he : e ≠ t) : v.ownBlock ≠ some b := by
  intro hg
  rcases h.2 with ⟨rfl, _⟩ | ⟨k, cap, cur, rfl, _, hh, _⟩
  · cases hg
  · simp only [Value.ownBlock, Option.some.injEq] at hg
    subst hg
    unfold BkS at hb
    rw [hh] at hb
    simp only [Option.some.injEq, Obj.cells.injEq] at hb
    exact he hb.2.1
theorem BkS.grown {t : TypeId} {w w' : World} {b : Nat} {l : List Value} {row : Option Nat} (h : BkS t w b l) (hg : w.grownBy w' row) (hb : row ≠ some b) : BkS t w' b l := (hg.block b h.lt (fun e => hb e.symm)).trans h
theorem TnS.grown {b : Nat} {u v w : World} {row : Option Nat} (h : TnS b u v) (hc : ∀ c, row = some c → u.heap.size ≤ c) (k : v.grownBy w row) : TnS b u w :=
  ⟨k.os.trans h.os, k.tape.trans h.tape, k.output.trans h.output, Nat.le_trans h.size k.size, fun i hi hb => (k.block i (Nat.lt_of_lt_of_le hi h.size) (fun e => by have := hc i e.symm; omega)).trans (h.block i hi hb)⟩
/-- A function under way. -/
structure FnSt (w : World) (n br nf n2 : Nat) (v : Value) (l : List UInt8) (r kk : Nat) (cv : Value) (c : List In) (wr : World) : Prop where
  ok : RdOk n br v l kk wr
  tn : TnS br w wr
  bx : BkS 55 wr nf [.int .i64 (r : Int), cv]
  rs : BkS 55 wr n2 [.int .i64 0, .slice none 0 0]
  ow : CodeO w.heap.size wr cv c
  d1 : br < w.heap.size
  d2 : w.heap.size ≤ n2
  d3 : n2 < nf
theorem FnSt.read {w : World} {n br nf n2 : Nat} {v : Value} {l : List UInt8} {r kk k2 : Nat} {cv : Value} {c : List In} {wr w' : World} (h : FnSt w n br nf n2 v l r kk cv c wr) (ht : TnS br wr w') (hr : BkS 68 w' br (rdC v k2)) (hk : k2 ≤ l.length) : FnSt w n br nf n2 v l r k2 cv c w' :=
  ⟨h.ok.next ht hr hk, h.tn.trans ht, h.bx.tn ht (by have := h.d1; have := h.d2; have := h.d3; omega), h.rs.tn ht (by have := h.d1; have := h.d2; omega), h.ow.tn ht h.d1, h.d1, h.d2, h.d3⟩
theorem FnSt.adds {w : World} {n br nf n2 : Nat} {v : Value} {l : List UInt8} {r kk : Nat} {cv : Value} {c : List In} {wr w' : World} (h : FnSt w n br nf n2 v l r kk cv c wr) (ha : Adds wr w') : FnSt w n br nf n2 v l r kk cv c w' :=
  h.read (TnS.of_adds br ha) (h.ok.hr.adds ha) h.ok.hk
theorem FnSt.app {w : World} {n br nf n2 : Nat} {v : Value} {l : List UInt8} {r kk : Nat} {cv cv' : Value} {c c' : List In} {wr w' : World} (h : FnSt w n br nf n2 v l r kk cv c wr) (hg : wr.grownBy w' cv.ownBlock) (ho : CodeO w.heap.size w' cv' c') :
    FnSt w n br nf n2 v l r kk cv' c' (w'.setCell ⟨nf, 1, none⟩ cv') := by
  have hne : ∀ c, cv.ownBlock = some c → w.heap.size ≤ c := fun c e => (World.ownsRow.lt h.ow c e).1
  have d1 := h.d1; have d2 := h.d2; have d3 := h.d3
  have hn := h.ok.hn
  have hlt := h.ok.hr.lt
  have b1 : Below n wr w' := ⟨hg.os, hg.tape, hg.output, hg.size, fun i hi => hg.block i (by omega) (fun e => by have := hne i e.symm; omega)⟩
  have b2 : Below n wr (w'.setCell ⟨nf, 1, none⟩ cv') := b1.trans ((Below.refl n w').setCell (by show n ≤ nf; omega) _)
  have bx := h.bx.grown hg (own_neT h.ow h.bx (by decide))
  have rs := h.rs.grown hg (own_neT h.ow h.rs (by decide))
  have rd := h.ok.hr.grown hg (own_neT h.ow h.ok.hr (by decide))
  have hnf : cv'.ownBlock ≠ some nf := own_neT ho bx (by decide)
  refine ⟨⟨h.ok.hn, h.ok.hg, h.ok.hv.below b2, h.ok.hw.low b2 h.ok.hg, rd.other (by omega) _, h.ok.hk⟩, (h.tn.grown hne hg).mine (by omega) (TnS.setCell nf 1 _ _), bx.set 1 cv', rs.other (by omega) _, ownsRow_tn ho (TnS.setCell nf 1 _ _) hnf, d1, d2, d3⟩
theorem insC_one1 (c : In) : ∀ u ∈ insC c, u.oneCell' = true := fun u hu => by simp [insC] at hu; rcases hu with rfl | rfl | rfl | rfl | rfl <;> rfl
theorem BkS.row {w : World} {k : Nat} {t : TypeId} {l : List Value} (h : BkS t w k l) : ∀ j u, l[j]? = some u → w.cell? ((⟨k, 0, none⟩ : Addr).add j) = some u := by
  intro j u hj
  have hadd : (⟨k, 0, none⟩ : Addr).add j = ⟨k, j, none⟩ := by unfold Addr.add; split <;> simp_all
  rw [hadd, h.cell j]
  exact hj
/-- append of one instruction, in a fence. -/
theorem wpIn_I_append {F : Fence} {m : Nat} {w : World} {ops : Array Oper} {rest : List Oper} {o : Oper} {a : Act} {Q : Exit → Act → World → Prop} (hgd : o.guard = none) (s x : Operand)
    (ho : o.op = .call { callee := .builtin .append, args := #[s, x], argTypes := #[53, 53] }) (base : Nat) (v : Value) (pre : List In) (c : In) (hs : a.eval s = v) (hown : CodeO base w v pre)
    (k : Nat) (hx : a.eval x = .slice (some ⟨k, 0, none⟩) 1 1) (hk : BkS 59 w k (insC c))
    (hlen : pre.length ≤ 4000000) (hbase : base ≤ w.heap.size)
    (h : ∀ v' w', CodeO base w' v' (pre ++ [c]) → w.grownBy w' v.ownBlock → wpListIn F m Tryz.prog ops Q rest (a.put o.dst v') w') : wpListIn F m Tryz.prog ops Q (o :: rest) a w := by
  obtain ⟨i0, hi, hz0, hz1, hz2⟩ := info_parts infoI5
  refine wpListIn_append_own w hgd s x 53 ho base 59 i0 (.agg #[.int .i64 0, .int .i64 0, .int .i64 0, .int .i64 0, .int .u32 0]) 5 40 Tryz.underlying53 hi hz0 hz1 hz2 rfl (by decide) v pre.length (pre.flatMap insC) hs hown ⟨k, 0, none⟩ 1 1 (insC c) hx rfl hk.row
    (insC_one1 c) (by unfold maxLen; omega) (by omega) hbase fun v' w' h1 h2 _ => h v' w' ?_ h2
  unfold CodeO; rw [List.length_append, List.flatMap_append]; simpa using h1
def RegF (w : World) (n br nf n2 : Nat) (v : Value) (l : List UInt8) (r kk kk2 : Nat) (cv v' : Value) (c : List In) (x : In) (B : Nat) (l3 l4 l5 l7 : Bool) (b fr : Act) (w2 : World) : Prop :=
  b = fr ∧ (l7 = true → FnSt w n br nf n2 v l r kk2 v' (c ++ [x]) w2) ∧
  (l7 = false → l5 = true → FnSt w n br nf n2 v l r kk2 v' (c ++ [x]) (w2.setCell ⟨nf, 1, none⟩ v') ∧ w2.cell? ⟨nf, 1, none⟩ = some cv ∧ w2.frozen? ⟨nf, 1, none⟩ = false) ∧
  (l7 = false → l5 = false → FnSt w n br nf n2 v l r (cond l3 kk2 kk) cv c w2 ∧ (l4 = true → BkS 59 w2 B (insC x)))
set_option maxRecDepth 100000 in
set_option maxHeartbeats 8000000 in
theorem mfunc {n : Nat} (br : Nat) (v : Value) (l : List UInt8) (k : Nat) (w : World) (h : RdOk n br v l k w) :
    Calls Tryz.prog 46 #[.pointer (some ⟨br, 0, none⟩)] w (FnPost (funcK l k) br v w) := by
  have hmx : Tryz.prog.follows .mixedOrders = true := by kernel_rfl
  have HR := Lib.hid h
  obtain ⟨rr, hrr⟩ : ∃ rr, funcK l k = rr := ⟨_, rfl⟩
  rw [hrr]
  have HRr := Lib.hid hrr
  have HBr := Lib.hid h.hr.lt
  clear hrr h
  obtain ⟨w1, hw1⟩ : ∃ w1, w.alloc (.cells #[.int .i64 0, .slice none 0 0] 55) = w1 := ⟨_, rfl⟩
  have A1 := Lib.hid (show Adds w w1 by rw [← hw1]; exact (Gr.new _ _).adds)
  have B1 := Lib.hid (show BkS 55 w1 w.heap.size [.int .i64 0, .slice none 0 0] by rw [← hw1]; exact BkS.new _ _ _)
  have HN1 := Lib.hid ((HR.out.adds A1.out).num 1 rfl (by decide))
  rcases h1 : numK l k 1 with ⟨r, k1⟩ | er
  · rw [h1] at HN1
    obtain ⟨e1, hk1, hr1, _⟩ := numK_in isW1 h1
    have HH1 := Lib.hid h1
    have HK1 := Lib.hid hk1
    clear h1 e1 hk1 hr1
    rcases h2 : numK l k1 2 with ⟨m, k2⟩ | er
    · have HH2 := Lib.hid h2
      obtain ⟨e2, hk2, hm2, _⟩ := numK_in isW2 h2
      have HK2 := Lib.hid hk2
      have hmI : (m : Int) < 65536 := by omega
      have HM := Lib.hid hm2
      clear e2 hk2 hm2
      go_enter Tryz.func46, Tryz.ntmps46
      go_wp2_with (first
        | (go_at_call 44; refine HN1.out.mono ?_; rintro e w2 ⟨rfl, r2, t2⟩; have a3 := adds_alloc w2 (.cells #[.int .i64 (r : Int), .slice none 0 0] 55); have R3 := Lib.hid (((HR.out.adds A1.out).next t2 r2 HK1.out).adds a3); have T3 := Lib.hid (((TnS.of_adds br A1.out).trans t2).trans (TnS.of_adds br a3)); have F3 := Lib.hid (BkS.new 55 w2 [.int .i64 (r : Int), .slice none 0 0]); have S3 := Lib.hid ((B1.out.tn t2 (by have := HBr.out; omega)).adds a3); have D3 := Lib.hid (show w.heap.size < w2.heap.size from by have := B1.out.lt; have := t2.size; omega); have HN2 := Lib.hid (R3.out.num 2 rfl (by decide)); rw [h2] at HN2; clear r2 t2 a3 HN1)
        | (go_at_call 44; refine HN2.out.mono ?_; rintro e w4 ⟨rfl, r4, t4⟩; have ST := Lib.hid (show FnSt w n br w2.heap.size w.heap.size v l r k2 (.slice none 0 0) [] w4 from ⟨R3.out.next t4 r4 HK2.out, T3.out.trans t4, F3.out.tn t4 (by have := HBr.out; have := D3.out; omega), S3.out.tn t4 (by have := HBr.out; omega), CodeO.nil _ _, HBr.out, Nat.le_refl _, D3.out⟩); clear r4 t4))
      clear h2
      obtain ⟨nf, hnf⟩ : ∃ nf, w2.heap.size = nf := ⟨_, rfl⟩
      obtain ⟨n2, hn2⟩ : ∃ n2, w.heap.size = n2 := ⟨_, rfl⟩
      have HNf := Lib.hid (And.intro hnf hn2)
      rw [hnf, hn2] at ST
      rw [hnf, hn2]
      clear hnf hn2 R3 T3 F3 S3 D3 HN2 A1 B1
      go_loopw [11] (fun i wr => ∃ j : Nat, i = .int .i64 (j : Int) ∧ j ≤ m ∧ ∃ (kk : Nat) (cv : Value) (c : List In), Hid (c.length = j) ∧ Hid (codeK l (m - j) kk c = codeK l m k2 []) ∧ Hid (FnSt w n br nf n2 v l r kk cv c wr)) (fun i _ => m - (RowKit.intOf i).toNat)
      case atStart => exact ⟨0, rfl, Nat.zero_le _, k2, _, [], Lib.hid rfl, Lib.hid rfl, ST⟩
      case round =>
        obtain ⟨j, rfl, hj, kk, cv, c, HCl, HEq, HS⟩ := hrel
        by_cases hlt : j < m
        · have hltI : (j : Int) < (m : Int) := by omega
          have HLt := Lib.hid hlt
          have hmj : m - j = (m - (j + 1)) + 1 := by omega
          have HSd := Lib.hid (HS.out.adds (Adds.drew wr))
          have HI := Lib.hid HSd.out.ok.ins
          have e1 : wr.cell? ⟨nf, 1, none⟩ = some cv := HS.out.bx.cell 1
          rcases hx : insK l kk with ⟨x, kk2⟩ | er
          · rw [hx] at HI
            have hks := (insK_in HS.out.ok.hk hx).2.2.2.1
            have HEq2 := Lib.hid (show codeK l (m - (j + 1)) kk2 (c ++ [x]) = codeK l m k2 [] by rw [← HEq.out, hmj, codeK, hx])
            have HKs := Lib.hid hks
            have HX := Lib.hid hx
            clear hks hx hmj hj hlt
            obtain ⟨xo, xa, xb, xc, xi⟩ := x
            have HRt := Lib.hid (fun (w6 : World) (t6 : TnS br wr.drew w6) (r6 : BkS 68 w6 br (rdC v kk2)) => HSd.out.read t6 r6 HKs.out)
            go_wp2
            refine (wpIn_wide (n := 6)).1 ?_
            refine wpIn_region_inv (fun L b' w2 => ∃ (B : Nat) (v' : Value), RegF w n br nf n2 v l r kk kk2 cv v' c (xo, xa, xb, xc, xi) B (L 3) (L 4) (L 5) (L 7) b' ({ tmps := #[Value.pointer (some { block := br, off := 0 }), undef, Value.pointer (some { block := n2, off := 0 }), Value.pointer (some { block := nf, off := 0 }), Value.pointer (some { block := br, off := 0 }), Value.func (Fn.func 45) #[Value.pointer (some { block := br, off := 0 })] #[], Value.int IntKind.i64 (r : Int), Value.agg #[Value.int IntKind.i64 (r : Int), Value.slice none 0 0], Value.pointer (some { block := br, off := 0 }), Value.func (Fn.func 45) #[Value.pointer (some { block := br, off := 0 })] #[], Value.int IntKind.i64 (m : Int), Value.int IntKind.i64 (j : Int), Value.bool true, sel2 (L 0) (Value.pointer (some { block := nf, off := 1 })) (u13), sel2 (L 1) (cv) (u14), sel2 (L 2) (Value.pointer (some { block := br, off := 0 })) (u15), sel2 (L 3) (insV (xo, xa, xb, xc, xi)) (u16), sel2 (L 4) (Value.slice (some { block := B, off := 0 }) 1 1) (u17), sel2 (L 5) (v') (u18), sel2 (L 6) (Value.pointer (some { block := nf, off := 1 })) (u19), u20, undef], defers := [] }) w2) hmx (by kernel_rfl) ?inv0 ?step ?fin
            case inv0 => exact ⟨0, undef, rfl, fun h => (by cases h), fun _ h => (by cases h), fun _ _ => ⟨HSd.out, fun h => (by cases h)⟩⟩
            case step =>
              rintro L b' w2 i o ho hL hC he ⟨B, v', rfl, hP⟩
              have q7 := hC 7 _ rfl
              have q5 := hC 5 _ rfl
              have q4 := hC 4 _ rfl
              simp [Region.binds] at q7 q5 q4
              have HP := Lib.hid hP
              clear hC hP
              rcases i with _ | _ | _ | _ | _ | _ | _ | _ | i
              · simp only [List.getElem?_cons_zero, Option.some.injEq] at ho
                subst ho
                try simp [Region.binds] at he
                clear q7 q5 q4
                try simp only []
                gi_wp2
                exact ⟨B, v', by simp [sel2, *], by first | exact HP.out | simpa [he] using HP.out⟩
              · simp only [List.getElem?_cons_zero, List.getElem?_cons_succ, Option.some.injEq] at ho
                subst ho
                try simp [Region.binds] at he
                have z7 : L 7 = false := by cases h : L 7 with | false => rfl | true => (have := q7 h; simp_all)
                have z5 : L 5 = false := by cases h : L 5 with | false => rfl | true => (have := q5 h; simp_all)
                clear q7 q5 q4
                have e1 : w2.cell? ⟨nf, 1, none⟩ = some cv := (HP.out.2.2 z7 z5).1.bx.cell 1
                try simp only [he, sel2_t]
                gi_wp2
                exact ⟨B, v', by simp [sel2, *], fun h => (by simp [] at h), fun _ h => (by simp [] at h), fun _ _ => by first | exact HP.out.2.2 z7 z5 | simpa [he] using HP.out.2.2 z7 z5⟩
              · simp only [List.getElem?_cons_zero, List.getElem?_cons_succ, Option.some.injEq] at ho
                subst ho
                try simp [Region.binds] at he
                clear q7 q5 q4
                try simp only []
                gi_wp2
                exact ⟨B, v', by simp [sel2, *], by first | exact HP.out | simpa [he] using HP.out⟩
              · simp only [List.getElem?_cons_zero, List.getElem?_cons_succ, Option.some.injEq] at ho
                subst ho
                try simp [Region.binds] at he
                have z7 : L 7 = false := by cases h : L 7 with | false => rfl | true => (have := q7 h; simp_all)
                have z5 : L 5 = false := by cases h : L 5 with | false => rfl | true => (have := q5 h; simp_all)
                have z4 : L 4 = false := by cases h : L 4 with | false => rfl | true => (have := q4 h; simp_all)
                clear q7 q5 q4
                have hs := (HP.out.2.2 z7 z5).1
                simp only [hL, cond_false] at hs
                have HS3 := Lib.hid hs
                have HI3 := Lib.hid (show Calls Tryz.prog 70 #[.pointer (some ⟨br, 0, none⟩)] w2 (RkPost (Sum.inl ((xo, xa, xb, xc, xi), kk2)) insV br v w2) from by have h := hs.ok.ins; rwa [HX.out] at h)
                clear hs
                simp only [he, sel2_t]
                gi_wp2_with (refine ⟨trivial, ?_⟩; gi_at_call 70; refine (callsIn_wide.2 HI3.out).mono ?_; rintro e w6 ⟨rfl, r6, t6⟩; have H6 := Lib.hid (HS3.out.read t6 r6 HKs.out); clear r6 t6)
                refine ⟨B, v', by simp [sel2, *], fun h => (by simp [] at h), fun _ h => (by simp [] at h), fun _ _ => ⟨by simpa using H6.out, fun h => (by simp [] at h)⟩⟩
              · simp only [List.getElem?_cons_zero, List.getElem?_cons_succ, Option.some.injEq] at ho
                subst ho
                try simp [Region.binds] at he
                have z7 : L 7 = false := by cases h : L 7 with | false => rfl | true => (have := q7 h; simp_all)
                have z5 : L 5 = false := by cases h : L 5 with | false => rfl | true => (have := q5 h; simp_all)
                clear q7 q5 q4
                have H4 := Lib.hid (HP.out.2.2 z7 z5).1
                simp only [he, sel2_t]
                gi_wp2
                refine ⟨w2.heap.size, v', by simp [sel2, *], fun h => (by simp [] at h), fun _ h => (by simp [] at h), fun _ _ => ⟨?_, fun _ => BkS.new 59 w2 (insC (xo, xa, xb, xc, xi))⟩⟩
                have h4 := H4.out.adds (adds_alloc w2 (.cells (insC (xo, xa, xb, xc, xi)).toArray 59))
                simpa [he] using h4
              · simp only [List.getElem?_cons_zero, List.getElem?_cons_succ, Option.some.injEq] at ho
                subst ho
                try simp [Region.binds] at he
                have z7 : L 7 = false := by cases h : L 7 with | false => rfl | true => (have := q7 h; simp_all)
                clear q7 q5 q4
                have p4 : L 4 = true := by simp [he]
                have p3 : L 3 = true := by simp [he]
                have p1 : L 1 = true := by simp [he]
                have hs := HP.out.2.2 z7 hL
                simp only [p3, cond_true] at hs
                have H5 := Lib.hid hs.1
                have B5 := Lib.hid (hs.2 p4)
                clear hs
                simp only [p1, p4, sel2_t]
                gi_wp2_with (gi_at_builtin; refine wpIn_I_append rfl (.tmp 14) (.tmp 17) rfl w.heap.size cv c (xo, xa, xb, xc, xi) rfl (by exact H5.out.ow) B rfl (by exact B5.out) (by have := HCl.out; have := HM.out; have := HLt.out; omega) (by exact H5.out.tn.size) ?_; intro v6 w6 o6 g6; have O6 := Lib.hid o6; have G6 := Lib.hid g6; clear o6 g6)
                refine ⟨B, v6, by simp [sel2, *], fun h => (by simp [] at h), fun _ _ => ⟨H5.out.app G6.out O6.out, ?_, ?_⟩, fun _ h => (by simp at h)⟩
                · exact (H5.out.bx.grown G6.out (own_neT H5.out.ow H5.out.bx (by decide))).cell 1
                · exact (H5.out.bx.grown G6.out (own_neT H5.out.ow H5.out.bx (by decide))).free 1
              · simp only [List.getElem?_cons_zero, List.getElem?_cons_succ, Option.some.injEq] at ho
                subst ho
                try simp [Region.binds] at he
                clear q7 q5 q4
                clear he
                gi_wp2
                exact ⟨B, v', by simp [sel2, *], by exact HP.out⟩
              · simp only [List.getElem?_cons_zero, List.getElem?_cons_succ, Option.some.injEq] at ho
                subst ho
                try simp [Region.binds] at he
                clear q7 q5 q4
                have p5 : L 5 = true := by simp [he]
                have p6 : L 6 = true := by simp [he]
                have hs := HP.out.2.1 hL p5
                obtain ⟨ao7, cp7, e7⟩ := hs.1.ow.form
                generalize (c ++ [(xo, xa, xb, xc, xi)]).length = q7 at e7
                subst e7
                have H7 := Lib.hid hs.1
                have e1 := hs.2.1
                have f1 := hs.2.2
                clear hs
                simp only [p5, p6, sel2_t]
                gi_wp2
                exact ⟨B, .slice ao7 q7 cp7, by simp [sel2], fun _ => H7.out, fun h => (by simp at h), fun h => (by simp at h)⟩
              · simp at ho
            case fin =>
              rintro b' w7 ⟨B, v', rfl, hP, _, _⟩
              simp only [List.length_cons, List.length_nil, Nat.reduceAdd, Nat.reduceLT, decide_true, sel2_t] at hP ⊢
              have H7 := Lib.hid (hP trivial)
              clear hP
              go_wp2
              go_roundw
              case rel => exact ⟨j + 1, by go_num, HLt.out, kk2, v', c ++ [(xo, xa, xb, xc, xi)], Lib.hid (by simp [HCl.out]), HEq2, H7⟩
              case measure => simp [RowKit.intOf]; have := HLt.out; omega
          · rw [hx] at HI
            have hrr := HRr.out
            unfold funcK at hrr
            rw [HH1.out] at hrr
            simp only [HH2.out] at hrr
            rw [← HEq.out, hmj, codeK] at hrr
            simp only [hx] at hrr
            subst hrr
            clear hx hmj hj hlt
            go_wp2
            refine (wpIn_wide (n := 6)).1 ?_
            refine wpIn_region_inv (fun L b' w2 => L 3 = false ∧ b' = ({ tmps := #[Value.pointer (some { block := br, off := 0 }), undef, Value.pointer (some { block := n2, off := 0 }), Value.pointer (some { block := nf, off := 0 }), Value.pointer (some { block := br, off := 0 }), Value.func (Fn.func 45) #[Value.pointer (some { block := br, off := 0 })] #[], Value.int IntKind.i64 (r : Int), Value.agg #[Value.int IntKind.i64 (r : Int), Value.slice none 0 0], Value.pointer (some { block := br, off := 0 }), Value.func (Fn.func 45) #[Value.pointer (some { block := br, off := 0 })] #[], Value.int IntKind.i64 (m : Int), Value.int IntKind.i64 (j : Int), Value.bool true, sel2 (L 0) (Value.pointer (some { block := nf, off := 1 })) (u13), sel2 (L 1) (cv) (u14), sel2 (L 2) (Value.pointer (some { block := br, off := 0 })) (u15), u16, u17, u18, sel2 (L 6) (Value.pointer (some { block := nf, off := 1 })) (u19), u20, undef], defers := [] } : Act) ∧ w2 = wr.drew) hmx (by kernel_rfl) ?inv0 ?step ?fin
            case inv0 => exact ⟨rfl, rfl, rfl⟩
            case step =>
              rintro L b' w2 i o ho hL hC he ⟨z3, rfl, rfl⟩
              clear hC
              rcases i with _ | _ | _ | _ | _ | _ | _ | _ | i
              · simp only [List.getElem?_cons_zero, Option.some.injEq] at ho
                subst ho
                try simp [Region.binds] at he
                try simp only []
                gi_wp2
                first | exact ⟨by simp [z3], by simp [sel2, *], rfl⟩ | exact rfl | exact ⟨rfl, rfl⟩ | exact ⟨z3, rfl⟩ | (simp_all; done) | (trace_state; sorry)
              · simp only [List.getElem?_cons_zero, List.getElem?_cons_succ, Option.some.injEq] at ho
                subst ho
                try simp [Region.binds] at he
                try simp only [he, sel2_t]
                gi_wp2
                first | exact ⟨by simp [z3], by simp [sel2, *], rfl⟩ | exact rfl | exact ⟨rfl, rfl⟩ | exact ⟨z3, rfl⟩ | (simp_all; done) | (trace_state; sorry)
              · simp only [List.getElem?_cons_zero, List.getElem?_cons_succ, Option.some.injEq] at ho
                subst ho
                try simp [Region.binds] at he
                try simp only []
                gi_wp2
                first | exact ⟨by simp [z3], by simp [sel2, *], rfl⟩ | exact rfl | exact ⟨rfl, rfl⟩ | exact ⟨z3, rfl⟩ | (simp_all; done) | (trace_state; sorry)
              · simp only [List.getElem?_cons_zero, List.getElem?_cons_succ, Option.some.injEq] at ho
                subst ho
                try simp [Region.binds] at he
                simp only [he, sel2_t]
                gi_wp2_with (refine ⟨trivial, ?_⟩; gi_at_call 70; refine (callsIn_wide.2 HI.out).mono ?_; rintro e w6 ⟨rfl, t6⟩)
                exact ⟨rfl, rfl, HSd.out.tn.trans t6⟩
              · simp only [List.getElem?_cons_zero, List.getElem?_cons_succ, Option.some.injEq] at ho
                subst ho
                try simp [Region.binds] at he
                simp [z3] at he
              · simp only [List.getElem?_cons_zero, List.getElem?_cons_succ, Option.some.injEq] at ho
                subst ho
                try simp [Region.binds] at he
                simp [z3] at he
              · simp only [List.getElem?_cons_zero, List.getElem?_cons_succ, Option.some.injEq] at ho
                subst ho
                try simp [Region.binds] at he
                try simp only [he, sel2_t]
                gi_wp2
                first | exact ⟨by simp [z3], by simp [sel2, *], rfl⟩ | exact rfl | exact ⟨rfl, rfl⟩ | exact ⟨z3, rfl⟩ | (simp_all; done) | (trace_state; sorry)
              · simp only [List.getElem?_cons_zero, List.getElem?_cons_succ, Option.some.injEq] at ho
                subst ho
                try simp [Region.binds] at he
                simp [z3] at he
              · simp at ho
            case fin =>
              rintro b' w2 ⟨z3, _⟩
              simp at z3
        · have hje : j = m := by omega
          have hltI : ¬ (j : Int) < (m : Int) := by omega
          have hrr := HRr.out
          unfold funcK at hrr
          rw [HH1.out] at hrr
          simp only [HH2.out] at hrr
          rw [← HEq.out, hje, Nat.sub_self, codeK] at hrr
          simp only at hrr
          subst hrr
          obtain ⟨aoc, cpc, hcv⟩ := HS.out.ow.form
          subst hcv
          have g0 : wr.cell? ⟨nf, 0, none⟩ = some (.int .i64 (r : Int)) := HS.out.bx.cell 0
          have g1 : wr.cell? ⟨nf, 1, none⟩ = some (.slice aoc c.length cpc) := HS.out.bx.cell 1
          have z0 : wr.cell? ⟨n2, 0, none⟩ = some (.int .i64 0) := HS.out.rs.cell 0
          have z1 : wr.cell? ⟨n2, 1, none⟩ = some (.slice none 0 0) := HS.out.rs.cell 1
          have y0 := HS.out.rs.free 0
          have y1 := HS.out.rs.free 1
          have hne1 : n2 < nf := HS.out.d3
          clear hlt hj hje
          go_wp2
          have hb := (HS.out.rs.set 0 (.int .i64 (r : Int))).set 1 (.slice aoc c.length cpc)
          refine bodyPost_ret (res_box rfl _ _ _ #[.int .i64 (r : Int), .slice aoc c.length cpc] _ _ _ rfl hb Tryz.underlying55 rfl (by kernel_rfl)) rfl ?_
          have d1 := HS.out.d1; have d2 := HS.out.d2
          have hT := (TnS.setCell n2 0 wr (.int .i64 (r : Int))).trans (TnS.setCell n2 1 _ (.slice aoc c.length cpc))
          exact ⟨⟨_, rfl, ownsRow_tn HS.out.ow hT (own_neT HS.out.ow HS.out.rs (by decide))⟩, (HS.out.ok.hr.other (by omega) _).other (by omega) _, HS.out.tn.mine (by omega) hT⟩
    · have hrr := HRr.out
      unfold funcK at hrr
      rw [HH1.out] at hrr
      simp only [h2] at hrr
      subst hrr
      go_enter Tryz.func46, Tryz.ntmps46
      go_wp2_with (first
        | (go_at_call 44; refine HN1.out.mono ?_; rintro e w2 ⟨rfl, r2, t2⟩; have a3 := adds_alloc w2 (.cells #[.int .i64 (r : Int), .slice none 0 0] 55); have T3 := Lib.hid (((TnS.of_adds br A1.out).trans t2).trans (TnS.of_adds br a3)); have HN2 := Lib.hid ((((HR.out.adds A1.out).next t2 r2 HK1.out).adds a3).num 2 rfl (by decide)); rw [h2] at HN2; clear r2 t2 a3 HN1)
        | (go_at_call 44; refine HN2.out.mono ?_; rintro e w4 ⟨rfl, t4⟩; have T4 := Lib.hid (T3.out.trans t4); clear t4))
      exact ⟨rfl, rfl, T4.out⟩
  · rw [h1] at HN1
    have hrr := HRr.out
    unfold funcK at hrr
    rw [h1] at hrr
    subst hrr
    clear h1
    go_enter Tryz.func46, Tryz.ntmps46
    go_wp2_with (go_at_call 44; refine HN1.out.mono ?_; rintro e w2 ⟨rfl, t2⟩; have T2 := Lib.hid t2; clear t2)
    exact ⟨rfl, rfl, (TnS.of_adds br A1.out).trans T2.out⟩
end Go.Proofs.YthhegcngkpfcoaaGreatDoor
