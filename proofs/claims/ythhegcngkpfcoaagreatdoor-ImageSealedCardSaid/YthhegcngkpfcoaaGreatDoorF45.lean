/- Merged: M15. -/
import Derived.Test.YthhegcngkpfcoaaGreatDoorF44
namespace Go.Proofs.YthhegcngkpfcoaaGreatDoor
open Go Go.RowKit Go.Shelf Go.Lib

/-- append of one function, in a fence. -/
theorem wpIn_F_append {F : Fence} {m : Nat} {w : World} {ops : Array Oper} {rest : List Oper} {o : Oper} {a : Act} {Q : Exit → Act → World → Prop} (hgd : o.guard = none) (s x : Operand)
    (ho : o.op = .call { callee := .builtin .append, args := #[s, x], argTypes := #[22, 22] }) (base : Nat) (v : Value) (pre : List Fu) (r : Int) (cv : Value) (c : List In) (hs : a.eval s = v) (hown : CopyO base w v pre) (hc : CodeO base w cv c)
    (k : Nat) (hx : a.eval x = .slice (some ⟨k, 0, none⟩) 1 1) (hk : BkS 55 w k [.int .i64 r, cv])
    (hlen : pre.length ≤ 4000000) (hbase : base ≤ w.heap.size)
    (h : ∀ v' w', CopyO base w' v' (pre ++ [(r, c)]) → w.grownBy w' v.ownBlock → wpListIn F m Tryz.prog ops Q rest (a.put o.dst v') w') : wpListIn F m Tryz.prog ops Q (o :: rest) a w := by
  obtain ⟨i0, hi, hz0, hz1, hz2⟩ := info_parts infoF2
  obtain ⟨rs, hR, hl, hi2⟩ := hown
  have hone : ∀ u ∈ fuC (r, cv), u.oneCell' = true := by
    obtain ⟨ao, cap, rfl⟩ := hc.form
    intro u hu
    simp at hu
    rcases hu with rfl | rfl <;> rfl
  have hrow := hR
  unfold RowO at hrow
  refine wpListIn_append_own w hgd s x 22 ho base 55 i0 (.agg #[.int .i64 0, .slice none 0 0]) 2 32 Tryz.underlying22 hi hz0 hz1 hz2 rfl (by decide) v rs.length (rs.flatMap fuC) hs hrow ⟨k, 0, none⟩ 1 1 (fuC (r, cv)) hx rfl hk.row
    hone (by rw [hl]; unfold maxLen; omega) (by rw [hl]; omega) hbase fun v' w' h1 h2 _ => h v' w' ?_ h2
  refine ⟨rs ++ [(r, cv)], ?_, by simp [hl], fun i hlt => ?_⟩
  · unfold RowO; rw [List.length_append, List.flatMap_append]; simpa using h1
  · have keep : ∀ u d, CodeO base w u d → CodeO base w' u d := fun u d hd =>
      ownsRow_grown hd h2 (fun g hg e => ownsRow_ne hd hR (by decide) g hg e)
    rw [List.length_append, List.length_singleton] at hlt
    by_cases hlt2 : i < pre.length
    · have e1 : (rs ++ [(r, cv)]).getD i zR = rs.getD i zR := by rw [List.getD_eq_getElem?_getD, List.getD_eq_getElem?_getD, List.getElem?_append_left (by omega)]
      have e2 : (pre ++ [(r, c)]).getD i zF = pre.getD i zF := by rw [List.getD_eq_getElem?_getD, List.getD_eq_getElem?_getD, List.getElem?_append_left hlt2]
      rw [e1, e2]
      exact ⟨(hi2 i hlt2).1, keep _ _ (hi2 i hlt2).2⟩
    · have hie : i = pre.length := by omega
      subst hie
      have e1 : (rs ++ [(r, cv)]).getD pre.length zR = (r, cv) := by rw [← hl, List.getD_eq_getElem?_getD]; simp
      have e2 : (pre ++ [(r, c)]).getD pre.length zF = (r, c) := by rw [List.getD_eq_getElem?_getD]; simp
      rw [e1, e2]
      exact ⟨rfl, keep _ _ hc⟩
theorem CopyO.form {n : Nat} {w : World} {v : Value} {fs : List Fu} (h : CopyO n w v fs) : ∃ ao cap, v = .slice ao fs.length cap := by
  obtain ⟨r, hR, hl, _⟩ := h
  obtain ⟨h1, h2⟩ := hR
  rcases h2 with ⟨rfl, h0⟩ | ⟨g, cap, cur, rfl, _⟩
  · have hc : fs = [] := by rw [hl] at h0; simpa using h0
    subst hc
    exact ⟨none, 0, rfl⟩
  · exact ⟨_, cap, by rw [hl]⟩
theorem CopyO.grown {n : Nat} {w w' : World} {v : Value} {fs : List Fu} (h : CopyO n w v fs) (_ht : TnS n w w') : CopyO n w v fs := h
theorem CopyO.blk {n : Nat} {w w' : World} {v : Value} {fs : List Fu} {b : Nat} {t : TypeId} {l : List Value} (h : CopyO n w v fs) (hb : BkS t w b l) (h1 : 55 ≠ t) (h2 : 59 ≠ t) (ht : TnS b w w') : CopyO n w' v fs := by
  obtain ⟨r, hR, hl, hi⟩ := h
  exact ⟨r, ownsRow_tn hR ht (own_neT hR hb h1), hl, fun i hlt => ⟨(hi i hlt).1, ownsRow_tn (hi i hlt).2 ht (own_neT (hi i hlt).2 hb h2)⟩⟩
theorem CopyO.neT {n : Nat} {w : World} {v : Value} {fs : List Fu} {b : Nat} {t : TypeId} {l : List Value} (h : CopyO n w v fs) (hb : BkS t w b l) (h1 : 55 ≠ t) : v.ownBlock ≠ some b := by
  obtain ⟨r, hR, _⟩ := h
  exact own_neT hR hb h1
theorem CopyO.lt {n : Nat} {w : World} {v : Value} {fs : List Fu} (h : CopyO n w v fs) : ∀ c, v.ownBlock = some c → n ≤ c := by
  obtain ⟨r, hR, _⟩ := h
  exact fun c e => (World.ownsRow.lt hR c e).1
def ImPost (r : (Pg × Nat) ⊕ Int) (br : Nat) (v : Value) (w : World) (e : Ending) (w' : World) : Prop :=
  match r with
  | .inl (p, k) => (∃ cv, e = .returned (pgV cv p) ∧ CopyO w.heap.size w' cv p.1) ∧ BkS 68 w' br (rdC v k) ∧ TnS br w w'
  | .inr er => e = .panicked [{ v := .iface 70 (.int .i64 er), recovered := false }] ∧ TnS br w w'
/-- A program under way. -/
structure PgSt (w : World) (n br nf n2 : Nat) (v : Value) (l : List UInt8) (a b d kk : Nat) (cv : Value) (fs : List Fu) (wr : World) : Prop where
  ok : RdOk n br v l kk wr
  tn : TnS br w wr
  bx : BkS 24 wr nf [cv, .int .i64 (a : Int), .int .i64 (b : Int), .int .i64 (d : Int)]
  rs : BkS 24 wr n2 [.slice none 0 0, .int .i64 0, .int .i64 0, .int .i64 0]
  ow : CopyO w.heap.size wr cv fs
  d1 : br < w.heap.size
  d2 : w.heap.size ≤ n2
  d3 : n2 < nf
theorem PgSt.read {w : World} {n br nf n2 : Nat} {v : Value} {l : List UInt8} {a b d kk k2 : Nat} {cv : Value} {fs : List Fu} {wr w' : World} (h : PgSt w n br nf n2 v l a b d kk cv fs wr) (ht : TnS br wr w') (hr : BkS 68 w' br (rdC v k2)) (hk : k2 ≤ l.length) : PgSt w n br nf n2 v l a b d k2 cv fs w' :=
  ⟨h.ok.next ht hr hk, h.tn.trans ht, h.bx.tn ht (by have := h.d1; have := h.d2; have := h.d3; omega), h.rs.tn ht (by have := h.d1; have := h.d2; omega), h.ow.tn ht h.d1, h.d1, h.d2, h.d3⟩
theorem PgSt.adds {w : World} {n br nf n2 : Nat} {v : Value} {l : List UInt8} {a b d kk : Nat} {cv : Value} {fs : List Fu} {wr w' : World} (h : PgSt w n br nf n2 v l a b d kk cv fs wr) (ha : Adds wr w') : PgSt w n br nf n2 v l a b d kk cv fs w' :=
  h.read (TnS.of_adds br ha) (h.ok.hr.adds ha) h.ok.hk
theorem PgSt.app {w : World} {n br nf n2 : Nat} {v : Value} {l : List UInt8} {a b d kk : Nat} {cv cv' : Value} {fs fs' : List Fu} {wr w' : World} (h : PgSt w n br nf n2 v l a b d kk cv fs wr) (hg : wr.grownBy w' cv.ownBlock) (ho : CopyO w.heap.size w' cv' fs') :
    PgSt w n br nf n2 v l a b d kk cv' fs' (w'.setCell ⟨nf, 0, none⟩ cv') := by
  have hne := h.ow.lt
  have d1 := h.d1; have d2 := h.d2; have d3 := h.d3
  have hn := h.ok.hn
  have hlt := h.ok.hr.lt
  have b1 : Below n wr w' := ⟨hg.os, hg.tape, hg.output, hg.size, fun i hi => hg.block i (by omega) (fun e => by have := hne i e.symm; omega)⟩
  have b2 : Below n wr (w'.setCell ⟨nf, 0, none⟩ cv') := b1.trans ((Below.refl n w').setCell (by show n ≤ nf; omega) _)
  have bx := h.bx.grown hg (h.ow.neT h.bx (by decide))
  have rs := h.rs.grown hg (h.ow.neT h.rs (by decide))
  have rd := h.ok.hr.grown hg (h.ow.neT h.ok.hr (by decide))
  refine ⟨⟨h.ok.hn, h.ok.hg, h.ok.hv.below b2, h.ok.hw.low b2 h.ok.hg, rd.other (by omega) _, h.ok.hk⟩, (h.tn.grown hne hg).mine (by omega) (TnS.setCell nf 0 _ _), bx.set 0 cv', rs.other (by omega) _, ho.blk bx (by decide) (by decide) (TnS.setCell nf 0 _ _), d1, d2, d3⟩
theorem RdOk.fn {n br k : Nat} {v : Value} {l : List UInt8} {w : World} (h : RdOk n br v l k w) : Calls Tryz.prog 46 #[.pointer (some ⟨br, 0, none⟩)] w (FnPost (funcK l k) br v w) := mfunc br v l k w h
def RegG (w : World) (n br nf n2 : Nat) (v : Value) (l : List UInt8) (a b d kk kk2 : Nat) (cv u v' : Value) (fs : List Fu) (f : Fu) (B : Nat) (l3 l4 l5 l7 : Bool) (b' fr : Act) (w2 : World) : Prop :=
  b' = fr ∧ (l7 = true → PgSt w n br nf n2 v l a b d kk2 v' (fs ++ [f]) w2) ∧
  (l7 = false → l5 = true → PgSt w n br nf n2 v l a b d kk2 v' (fs ++ [f]) (w2.setCell ⟨nf, 0, none⟩ v') ∧ w2.cell? ⟨nf, 0, none⟩ = some cv ∧ w2.frozen? ⟨nf, 0, none⟩ = false) ∧
  (l7 = false → l5 = false → PgSt w n br nf n2 v l a b d (cond l3 kk2 kk) cv fs w2 ∧ (l3 = true → CodeO w.heap.size w2 u f.2) ∧ (l4 = true → BkS 55 w2 B [.int .i64 f.1, u]))
def RegC (wr : World) (sg : List UInt8) (B : Nat) (l12 : Bool) (b' fr : Act) (w2 : World) : Prop :=
  b' = fr ∧ Adds wr w2 ∧ (l12 = true → Lists wr.heap.size w2 (.slice (some ⟨B, 0, none⟩) 1 1) [sg])
set_option maxRecDepth 100000 in
set_option maxHeartbeats 8000000 in
theorem mimage {n : Nat} (br : Nat) (v : Value) (l : List UInt8) (k : Nat) (w : World) (h : RdOk n br v l k w) (hb : BegW w) (hbg : 0 < n) :
    Calls Tryz.prog 26 #[.pointer (some ⟨br, 0, none⟩)] w (ImPost (imgK l k) br v w) := by
  have hmx : Tryz.prog.follows .mixedOrders = true := by kernel_rfl
  have HR := Lib.hid h
  obtain ⟨rr, hrr⟩ : ∃ rr, imgK l k = rr := ⟨_, rfl⟩
  rw [hrr]
  have HRr := Lib.hid hrr
  have HBr := Lib.hid h.hr.lt
  have HBg := Lib.hid (And.intro hb hbg)
  clear hrr h hb hbg
  obtain ⟨w1, hw1⟩ : ∃ w1, w.alloc (.cells #[.slice none 0 0, .int .i64 0, .int .i64 0, .int .i64 0] 24) = w1 := ⟨_, rfl⟩
  have A1 := Lib.hid (show Adds w w1 by rw [← hw1]; exact (Gr.new _ _).adds)
  have B1 := Lib.hid (show BkS 24 w1 w.heap.size [.slice none 0 0, .int .i64 0, .int .i64 0, .int .i64 0] by rw [← hw1]; exact BkS.new _ _ _)
  have R1 := Lib.hid (HR.out.adds A1.out)
  have HB0 := Lib.hid (mbeg br v l k w1 R1.out (HBg.out.1.adds A1.out))
  have c1 : w1.cell? ⟨br, 1, none⟩ = some (.int .i64 (k : Int)) := R1.out.hr.cell 1
  rcases h0 : begK l lineB k with k0 | er
  · have HH0 := Lib.hid h0
    rw [h0] at HB0
    obtain ⟨he, hk0, hf⟩ := begK_in _ _ HR.out.hk h0
    have HK0 := Lib.hid hk0
    clear h0 hk0 he hf
    rcases h1 : numK l k0 1 with ⟨a, k1⟩ | er
    · have HHa := Lib.hid h1
      obtain ⟨he, hk, hv1, hf⟩ := numK_in isW1 h1
      have HK1 := Lib.hid hk
      clear he hf hk h1
      rcases h2 : numK l k1 1 with ⟨b, k2⟩ | er
      · have HHb := Lib.hid h2
        obtain ⟨he, hk, hv2, hf⟩ := numK_in isW1 h2
        have HK2 := Lib.hid hk
        clear he hf hk h2
        rcases h3 : numK l k2 1 with ⟨d, k3⟩ | er
        · have HHd := Lib.hid h3
          obtain ⟨he, hk, hv3, hf⟩ := numK_in isW1 h3
          have HK3 := Lib.hid hk
          clear he hf hk h3
          rcases h4 : numK l k3 1 with ⟨m, k4⟩ | er
          · have HHm := Lib.hid h4
            obtain ⟨he, hk, hv4, hf⟩ := numK_in isW1 h4
            have HK4 := Lib.hid hk
            clear he hf hk h4
            have hmI : (m : Int) < 256 := by omega
            have HM := Lib.hid hv4
            clear hv1 hv2 hv3 hv4
            go_enter Tryz.func26, Tryz.ntmps26
            go_wp2_with (first
              | (go_at_call 43; refine HB0.out.mono ?_; rintro e w2 ⟨rfl, r2, t2⟩; have S2 := Lib.hid (And.intro (R1.out.next t2 r2 HK0.out) ((TnS.of_adds br A1.out).trans t2)); have B2 := Lib.hid (B1.out.tn t2 (by have := HBr.out; omega)); clear r2 t2; have HNa := Lib.hid (S2.out.1.num 1 rfl (by decide)); rw [HHa.out] at HNa)
              | (go_at_call 44; refine HNa.out.mono ?_; rintro e w3 ⟨rfl, r3, t3⟩; have S3 := Lib.hid (And.intro (S2.out.1.next t3 r3 HK1.out) (S2.out.2.trans t3)); have B3 := Lib.hid (B2.out.tn t3 (by have := HBr.out; omega)); clear r3 t3 HNa; have HNb := Lib.hid (S3.out.1.num 1 rfl (by decide)); rw [HHb.out] at HNb)
              | (go_at_call 44; refine HNb.out.mono ?_; rintro e w4 ⟨rfl, r4, t4⟩; have S4 := Lib.hid (And.intro (S3.out.1.next t4 r4 HK2.out) (S3.out.2.trans t4)); have B4 := Lib.hid (B3.out.tn t4 (by have := HBr.out; omega)); clear r4 t4 HNb; have HNd := Lib.hid (S4.out.1.num 1 rfl (by decide)); rw [HHd.out] at HNd)
              | (go_at_call 44; refine HNd.out.mono ?_; rintro e w5 ⟨rfl, r5, t5⟩; have S5 := Lib.hid (And.intro (S4.out.1.next t5 r5 HK3.out) (S4.out.2.trans t5)); have B5 := Lib.hid (B4.out.tn t5 (by have := HBr.out; omega)); clear r5 t5 HNd; have a5 := adds_alloc w5 (.cells #[.slice none 0 0, .int .i64 (a : Int), .int .i64 (b : Int), .int .i64 (d : Int)] 24); have F5 := Lib.hid (BkS.new 24 w5 [.slice none 0 0, .int .i64 (a : Int), .int .i64 (b : Int), .int .i64 (d : Int)]); have S6 := Lib.hid (And.intro (S5.out.1.adds a5) (S5.out.2.trans (TnS.of_adds br a5))); have B6 := Lib.hid (B5.out.adds a5); have D6 := Lib.hid (show w.heap.size < w5.heap.size from B5.out.lt); clear a5; have HNm := Lib.hid (S6.out.1.num 1 rfl (by decide)); rw [HHm.out] at HNm)
              | (go_at_call 44; refine HNm.out.mono ?_; rintro e w6 ⟨rfl, r6, t6⟩; have S7 := Lib.hid (And.intro (S6.out.1.next t6 r6 HK4.out) (S6.out.2.trans t6)); have B7 := Lib.hid (B6.out.tn t6 (by have := HBr.out; omega)); have F7 := Lib.hid (F5.out.tn t6 (by have := HBr.out; have := D6.out; omega)); clear r6 t6 HNm; have ST := Lib.hid (show PgSt w n br w5.heap.size w.heap.size v l a b d k4 (.slice none 0 0) [] w6 from ⟨S7.out.1, S7.out.2, F7.out, B7.out, CopyO.nil _ _, HBr.out, Nat.le_refl _, D6.out⟩)))
            clear B1 B2 B3 B4 B5 B6 B7 S2 S3 S4 S5 S6 S7 F5 F7 HB0
            obtain ⟨nf, hnf⟩ : ∃ nf, w5.heap.size = nf := ⟨_, rfl⟩
            obtain ⟨n2, hn2⟩ : ∃ n2, w.heap.size = n2 := ⟨_, rfl⟩
            have HNf := Lib.hid (And.intro hnf hn2)
            rw [hnf, hn2] at ST
            rw [hnf, hn2]
            clear hnf hn2 D6
            go_loopw [25] (fun i wr => ∃ j : Nat, i = .int .i64 (j : Int) ∧ j ≤ m ∧ ∃ (kk : Nat) (cv : Value) (fs : List Fu), Hid (fs.length = j) ∧ Hid (funcsK l (m - j) kk fs = funcsK l m k4 []) ∧ Hid (PgSt w n br nf n2 v l a b d kk cv fs wr)) (fun i _ => m - (RowKit.intOf i).toNat)
            case atStart => exact ⟨0, rfl, Nat.zero_le _, k4, _, [], Lib.hid rfl, Lib.hid rfl, ST⟩
            case round =>
              obtain ⟨j, rfl, hj, kk, cv, fs, HCl, HEq, HS⟩ := hrel
              have HPg := Lib.hid (show (∀ fs k5, funcsK l m k4 [] = .inl (fs, k5) → pgK l k = .inl ((fs, (a : Int), (b : Int), (d : Int)), k5)) ∧ (∀ e, funcsK l m k4 [] = .inr e → pgK l k = .inr e) by
                refine ⟨fun fs k5 h => ?_, fun e h => ?_⟩
                · unfold pgK; rw [HH0.out]; simp only [HHa.out, HHb.out, HHd.out, HHm.out, h]
                · unfold pgK; rw [HH0.out]; simp only [HHa.out, HHb.out, HHd.out, HHm.out, h])
              by_cases hlt : j < m
              · have hltI : (j : Int) < (m : Int) := by omega
                have HLt := Lib.hid hlt
                have hmj : m - j = (m - (j + 1)) + 1 := by omega
                have HSd := Lib.hid (HS.out.adds (Adds.drew wr))
                have HI := Lib.hid HSd.out.ok.fn
                rcases hx : funcK l kk with ⟨f, kk2⟩ | er
                · rw [hx] at HI
                  have hks := (funcK_in HS.out.ok.hk hx).2.1
                  have HEq2 := Lib.hid (show funcsK l (m - (j + 1)) kk2 (fs ++ [f]) = funcsK l m k4 [] by rw [← HEq.out, hmj, funcsK, hx])
                  have HKs := Lib.hid hks
                  have HX := Lib.hid hx
                  clear hks hx hmj hj hlt HI
                  obtain ⟨fr, c⟩ := f
                  go_wp2
                  refine (wpIn_wide (n := 6)).1 ?_
                  refine wpIn_region_inv (fun L b' w2 => ∃ (B : Nat) (u v' : Value), RegG w n br nf n2 v l a b d kk kk2 cv u v' fs (fr, c) B (L 3) (L 4) (L 5) (L 7) b' ({ tmps := #[Value.pointer (some { block := br, off := 0 }), undef, Value.pointer (some { block := n2, off := 0 }), Value.int IntKind.i64 (k : Int), Value.pointer (some { block := nf, off := 0 }), undef, Value.pointer (some { block := br, off := 0 }), Value.pointer (some { block := br, off := 0 }), Value.pointer (some { block := br, off := 1 }), Value.int IntKind.i64 (k : Int), Value.pointer (some { block := br, off := 0 }), Value.tuple #[], Value.pointer (some { block := br, off := 0 }), Value.func (Fn.func 45) #[Value.pointer (some { block := br, off := 0 })] #[], Value.int IntKind.i64 (a : Int), Value.pointer (some { block := br, off := 0 }), Value.func (Fn.func 45) #[Value.pointer (some { block := br, off := 0 })] #[], Value.int IntKind.i64 (b : Int), Value.pointer (some { block := br, off := 0 }), Value.func (Fn.func 45) #[Value.pointer (some { block := br, off := 0 })] #[], Value.int IntKind.i64 (d : Int), Value.agg #[Value.slice none 0 0, Value.int IntKind.i64 (a : Int), Value.int IntKind.i64 (b : Int), Value.int IntKind.i64 (d : Int)], Value.pointer (some { block := br, off := 0 }), Value.func (Fn.func 45) #[Value.pointer (some { block := br, off := 0 })] #[], Value.int IntKind.i64 (m : Int), Value.int IntKind.i64 (j : Int), Value.bool true, sel2 (L 0) (Value.pointer (some { block := nf, off := 0 })) (u27), sel2 (L 1) (cv) (u28), sel2 (L 2) (Value.pointer (some { block := br, off := 0 })) (u29), sel2 (L 3) (Value.agg #[Value.int IntKind.i64 fr, u]) (u30), sel2 (L 4) (Value.slice (some { block := B, off := 0 }) 1 1) (u31), sel2 (L 5) (v') (u32), sel2 (L 6) (Value.pointer (some { block := nf, off := 0 })) (u33), u34, undef, undef, undef, undef, undef, undef, undef, undef, undef, undef, undef, undef, undef, undef, undef, undef, undef, undef, undef, undef, undef, undef, undef, undef, undef, undef], defers := [] }) w2) hmx (by kernel_rfl) ?inv0 ?step ?fin
                  case inv0 => exact ⟨0, undef, undef, rfl, fun h => (by cases h), fun _ h => (by cases h), fun _ _ => ⟨HSd.out, fun h => (by cases h), fun h => (by cases h)⟩⟩
                  case step =>
                    rintro L b' w2 i o ho hL hC he ⟨B, u, v', rfl, hP⟩
                    have q7 := hC 7 _ rfl
                    have q5 := hC 5 _ rfl
                    have q4 := hC 4 _ rfl
                    simp [Region.binds] at q7 q5 q4
                    have HP := Lib.hid hP
                    clear hC hP
                    rcases i with _ | _ | _ | _ | _ | _ | _ | _ | i
                    · simp only [List.getElem?_cons_zero, Option.some.injEq] at ho
                      subst ho
                      try simp [Region.binds] at he
                      clear q7 q5 q4
                      try simp only []
                      gi_wp2
                      exact ⟨B, u, v', by simp [sel2, *], by first | exact HP.out | simpa [he] using HP.out⟩
                    · simp only [List.getElem?_cons_zero, List.getElem?_cons_succ, Option.some.injEq] at ho
                      subst ho
                      try simp [Region.binds] at he
                      have z7 : L 7 = false := by cases h : L 7 with | false => rfl | true => (have hq := q7 h; simp [hq] at hL)
                      have z5 : L 5 = false := by cases h : L 5 with | false => rfl | true => (have hq := q5 h; simp [hq] at hL)
                      clear q7 q5 q4
                      have e1 : w2.cell? ⟨nf, 0, none⟩ = some cv := (HP.out.2.2 z7 z5).1.bx.cell 0
                      try simp only [he, sel2_t]
                      gi_wp2
                      exact ⟨B, u, v', by simp [sel2, *], fun h => (by simp [] at h), fun _ h => (by simp [] at h), fun _ _ => by first | exact HP.out.2.2 z7 z5 | simpa [he] using HP.out.2.2 z7 z5⟩
                    · simp only [List.getElem?_cons_zero, List.getElem?_cons_succ, Option.some.injEq] at ho
                      subst ho
                      try simp [Region.binds] at he
                      clear q7 q5 q4
                      try simp only []
                      gi_wp2
                      exact ⟨B, u, v', by simp [sel2, *], by first | exact HP.out | simpa [he] using HP.out⟩
                    · simp only [List.getElem?_cons_zero, List.getElem?_cons_succ, Option.some.injEq] at ho
                      subst ho
                      try simp [Region.binds] at he
                      have z7 : L 7 = false := by cases h : L 7 with | false => rfl | true => (have hq := q7 h; simp [hq] at hL)
                      have z5 : L 5 = false := by cases h : L 5 with | false => rfl | true => (have hq := q5 h; simp [hq] at hL)
                      have z4 : L 4 = false := by cases h : L 4 with | false => rfl | true => (have hq := q4 h; simp [hq] at hL)
                      clear q7 q5 q4
                      have hs := (HP.out.2.2 z7 z5).1
                      simp only [hL, cond_false] at hs
                      have HS3 := Lib.hid hs
                      have HI3 := Lib.hid (show Calls Tryz.prog 46 #[.pointer (some ⟨br, 0, none⟩)] w2 (FnPost (Sum.inl ((fr, c), kk2)) br v w2) from by have h := hs.ok.fn; rwa [HX.out] at h)
                      clear hs
                      simp only [he, sel2_t]
                      gi_wp2_with (refine ⟨trivial, ?_⟩; gi_at_call 46; refine (callsIn_wide.2 HI3.out).mono ?_; rintro e w6 ⟨⟨u6, rfl, o6⟩, r6, t6⟩; have H6 := Lib.hid (HS3.out.read t6 r6 HKs.out); have O6 := Lib.hid (CodeO.lower o6 HS3.out.tn.size); clear r6 t6 o6)
                      refine ⟨B, u6, v', by simp [sel2, *], fun h => (by simp [] at h), fun _ h => (by simp [] at h), fun _ _ => ⟨by simpa using H6.out, fun _ => O6.out, fun h => (by simp [] at h)⟩⟩
                    · simp only [List.getElem?_cons_zero, List.getElem?_cons_succ, Option.some.injEq] at ho
                      subst ho
                      try simp [Region.binds] at he
                      have z7 : L 7 = false := by cases h : L 7 with | false => rfl | true => (have hq := q7 h; simp [hq] at hL)
                      have z5 : L 5 = false := by cases h : L 5 with | false => rfl | true => (have hq := q5 h; simp [hq] at hL)
                      clear q7 q5 q4
                      have p3 : L 3 = true := by simp [he]
                      have hs := HP.out.2.2 z7 z5
                      obtain ⟨aou, cpu, e7⟩ := (hs.2.1 p3).form
                      generalize c.length = q7 at e7
                      subst e7
                      have H4 := Lib.hid hs.1
                      have O4 := Lib.hid (hs.2.1 p3)
                      clear hs
                      simp only [he, sel2_t]
                      gi_wp2
                      refine ⟨w2.heap.size, .slice aou q7 cpu, v', by simp [sel2, *], fun h => (by simp [] at h), fun _ h => (by simp [] at h), fun _ _ => ⟨?_, fun _ => CodeO.adds O4.out (adds_alloc _ _), fun _ => BkS.new 55 w2 [.int .i64 fr, .slice aou q7 cpu]⟩⟩
                      have h4 := H4.out.adds (adds_alloc w2 (.cells #[.int .i64 fr, .slice aou q7 cpu] 55))
                      simpa [he] using h4
                    · simp only [List.getElem?_cons_zero, List.getElem?_cons_succ, Option.some.injEq] at ho
                      subst ho
                      try simp [Region.binds] at he
                      have z7 : L 7 = false := by cases h : L 7 with | false => rfl | true => (have hq := q7 h; simp [hq] at hL)
                      clear q7 q5 q4
                      have p4 : L 4 = true := by simp [he]
                      have p3 : L 3 = true := by simp [he]
                      have p1 : L 1 = true := by simp [he]
                      have hs := HP.out.2.2 z7 hL
                      simp only [p3, cond_true] at hs
                      have H5 := Lib.hid hs.1
                      have O5 := Lib.hid (hs.2.1 trivial)
                      have B5 := Lib.hid (hs.2.2 p4)
                      clear hs
                      simp only [p1, p4, sel2_t]
                      gi_wp2_with (gi_at_builtin; refine wpIn_F_append rfl (.tmp 28) (.tmp 31) rfl w.heap.size cv fs fr u c rfl (by exact H5.out.ow) (by exact O5.out) B rfl (by exact B5.out) (by have := HCl.out; have := HM.out; have := HLt.out; omega) (by exact H5.out.tn.size) ?_; intro v6 w6 o6 g6; have O6 := Lib.hid o6; have G6 := Lib.hid g6; clear o6 g6)
                      refine ⟨B, u, v6, by simp [sel2, *], fun h => (by simp [] at h), fun _ _ => ⟨H5.out.app G6.out O6.out, ?_, ?_⟩, fun _ h => (by simp at h)⟩
                      · exact (H5.out.bx.grown G6.out (H5.out.ow.neT H5.out.bx (by decide))).cell 0
                      · exact (H5.out.bx.grown G6.out (H5.out.ow.neT H5.out.bx (by decide))).free 0
                    · simp only [List.getElem?_cons_zero, List.getElem?_cons_succ, Option.some.injEq] at ho
                      subst ho
                      try simp [Region.binds] at he
                      clear q7 q5 q4
                      clear he
                      gi_wp2
                      exact ⟨B, u, v', by simp [sel2, *], by exact HP.out⟩
                    · simp only [List.getElem?_cons_zero, List.getElem?_cons_succ, Option.some.injEq] at ho
                      subst ho
                      try simp [Region.binds] at he
                      clear q7 q5 q4
                      have p5 : L 5 = true := by simp [he]
                      have p6 : L 6 = true := by simp [he]
                      have hs := HP.out.2.1 hL p5
                      obtain ⟨ao7, cp7, e7⟩ := hs.1.ow.form
                      generalize (fs ++ [(fr, c)]).length = q7 at e7
                      subst e7
                      have H7 := Lib.hid hs.1
                      have e1 := hs.2.1
                      have f1 := hs.2.2
                      clear hs
                      simp only [p5, p6, sel2_t]
                      gi_wp2
                      exact ⟨B, u, .slice ao7 q7 cp7, by simp [sel2], fun _ => H7.out, fun h => (by simp at h), fun h => (by simp at h)⟩
                    · simp at ho
                  case fin =>
                    rintro b' w7 ⟨B, u, v', rfl, hP, _, _⟩
                    simp only [List.length_cons, List.length_nil, Nat.reduceAdd, Nat.reduceLT, decide_true, sel2_t] at hP ⊢
                    have H7 := Lib.hid (hP trivial)
                    clear hP
                    go_wp2
                    go_roundw
                    case rel => exact ⟨j + 1, by go_num, HLt.out, kk2, v', fs ++ [(fr, c)], Lib.hid (by simp [HCl.out]), HEq2, H7⟩
                    case measure => simp [RowKit.intOf]; have := HLt.out; omega
                · rw [hx] at HI
                  have hrr := HRr.out
                  have hpg := HPg.out.2 er (by rw [← HEq.out, hmj, funcsK]; simp only [hx])
                  unfold imgK at hrr
                  rw [hpg] at hrr
                  simp only at hrr
                  subst hrr
                  clear hx hmj hj hlt hpg
                  have e1 : wr.cell? ⟨nf, 0, none⟩ = some cv := HS.out.bx.cell 0
                  go_wp2
                  refine (wpIn_wide (n := 6)).1 ?_
                  refine wpIn_region_inv (fun L b' w2 => L 3 = false ∧ b' = ({ tmps := #[Value.pointer (some { block := br, off := 0 }), undef, Value.pointer (some { block := n2, off := 0 }), Value.int IntKind.i64 (k : Int), Value.pointer (some { block := nf, off := 0 }), undef, Value.pointer (some { block := br, off := 0 }), Value.pointer (some { block := br, off := 0 }), Value.pointer (some { block := br, off := 1 }), Value.int IntKind.i64 (k : Int), Value.pointer (some { block := br, off := 0 }), Value.tuple #[], Value.pointer (some { block := br, off := 0 }), Value.func (Fn.func 45) #[Value.pointer (some { block := br, off := 0 })] #[], Value.int IntKind.i64 (a : Int), Value.pointer (some { block := br, off := 0 }), Value.func (Fn.func 45) #[Value.pointer (some { block := br, off := 0 })] #[], Value.int IntKind.i64 (b : Int), Value.pointer (some { block := br, off := 0 }), Value.func (Fn.func 45) #[Value.pointer (some { block := br, off := 0 })] #[], Value.int IntKind.i64 (d : Int), Value.agg #[Value.slice none 0 0, Value.int IntKind.i64 (a : Int), Value.int IntKind.i64 (b : Int), Value.int IntKind.i64 (d : Int)], Value.pointer (some { block := br, off := 0 }), Value.func (Fn.func 45) #[Value.pointer (some { block := br, off := 0 })] #[], Value.int IntKind.i64 (m : Int), Value.int IntKind.i64 (j : Int), Value.bool true, sel2 (L 0) (Value.pointer (some { block := nf, off := 0 })) (u27), sel2 (L 1) (cv) (u28), sel2 (L 2) (Value.pointer (some { block := br, off := 0 })) (u29), u30, u31, u32, sel2 (L 6) (Value.pointer (some { block := nf, off := 0 })) (u33), u34, undef, undef, undef, undef, undef, undef, undef, undef, undef, undef, undef, undef, undef, undef, undef, undef, undef, undef, undef, undef, undef, undef, undef, undef, undef, undef], defers := [] } : Act) ∧ w2 = wr.drew) hmx (by kernel_rfl) ?inv0 ?step ?fin
                  case inv0 => exact ⟨rfl, rfl, rfl⟩
                  case step =>
                    rintro L b' w2 i o ho hL hC he ⟨z3, rfl, rfl⟩
                    clear hC
                    rcases i with _ | _ | _ | _ | _ | _ | _ | _ | i
                    · simp only [List.getElem?_cons_zero, Option.some.injEq] at ho
                      subst ho
                      try simp [Region.binds] at he
                      try simp only []
                      gi_wp2
                      first | exact ⟨by simp [z3], by simp [sel2, *], rfl⟩ | exact rfl | exact ⟨rfl, rfl⟩ | exact ⟨z3, rfl⟩ | (rw [he.2.2.2.1] at z3; cases z3)
                    · simp only [List.getElem?_cons_zero, List.getElem?_cons_succ, Option.some.injEq] at ho
                      subst ho
                      try simp [Region.binds] at he
                      try simp only [he, sel2_t]
                      gi_wp2
                      first | exact ⟨by simp [z3], by simp [sel2, *], rfl⟩ | exact rfl | exact ⟨rfl, rfl⟩ | exact ⟨z3, rfl⟩ | (rw [he.2.2.2.1] at z3; cases z3)
                    · simp only [List.getElem?_cons_zero, List.getElem?_cons_succ, Option.some.injEq] at ho
                      subst ho
                      try simp [Region.binds] at he
                      try simp only []
                      gi_wp2
                      first | exact ⟨by simp [z3], by simp [sel2, *], rfl⟩ | exact rfl | exact ⟨rfl, rfl⟩ | exact ⟨z3, rfl⟩ | (rw [he.2.2.2.1] at z3; cases z3)
                    · simp only [List.getElem?_cons_zero, List.getElem?_cons_succ, Option.some.injEq] at ho
                      subst ho
                      try simp [Region.binds] at he
                      simp only [he, sel2_t]
                      gi_wp2_with (refine ⟨trivial, ?_⟩; gi_at_call 46; refine (callsIn_wide.2 HI.out).mono ?_; rintro e w6 ⟨rfl, t6⟩)
                      exact ⟨rfl, rfl, HSd.out.tn.trans t6⟩
                    · simp only [List.getElem?_cons_zero, List.getElem?_cons_succ, Option.some.injEq] at ho
                      subst ho
                      try simp [Region.binds] at he
                      simp [z3] at he
                    · simp only [List.getElem?_cons_zero, List.getElem?_cons_succ, Option.some.injEq] at ho
                      subst ho
                      try simp [Region.binds] at he
                      simp [z3] at he
                    · simp only [List.getElem?_cons_zero, List.getElem?_cons_succ, Option.some.injEq] at ho
                      subst ho
                      try simp [Region.binds] at he
                      try simp only [he, sel2_t]
                      gi_wp2
                      first | exact ⟨by simp [z3], by simp [sel2, *], rfl⟩ | exact rfl | exact ⟨rfl, rfl⟩ | exact ⟨z3, rfl⟩ | (rw [he.2.2.2.1] at z3; cases z3)
                    · simp only [List.getElem?_cons_zero, List.getElem?_cons_succ, Option.some.injEq] at ho
                      subst ho
                      try simp [Region.binds] at he
                      simp [z3] at he
                    · simp at ho
                  case fin =>
                    rintro b' w2 ⟨z3, _⟩
                    simp at z3
              · have hje : j = m := by omega
                have hltI : ¬ (j : Int) < (m : Int) := by omega
                have HPg2 := Lib.hid (HPg.out.1 fs kk (by rw [← HEq.out, hje, Nat.sub_self, funcsK]))
                have HJe := Lib.hid hje
                clear HPg hj hlt hje HEq
                obtain ⟨ao, cap, hvv, hv1, hv2, _⟩ := id HS.out.ok.hv
                subst hvv
                obtain ⟨hkk, hkl, _, hok⟩ := pgK_in HR.out.hk HPg2.out
                have HOk := Lib.hid hok
                unfold maxLen at hv2
                have HCut := Lib.hid (fun W => mcut_any ao l.length cap k (kk - k) W hv1 (by omega) (by omega))
                simp only [show ((kk - k : Nat) : Int) = (kk : Int) - k by omega] at HCut
                have HBc := Lib.hid (cutV_bytes HS.out.ok.hv k (kk - k) (by omega))
                obtain ⟨ac, hcu⟩ : ∃ ac, cutV ao k (kk - k) = .slice ac (kk - k) (kk - k) := ⟨_, rfl⟩
                rw [hcu] at HCut HBc
                obtain ⟨dl, hdl⟩ : ∃ dl, kk - k = dl := ⟨_, rfl⟩
                rw [hdl] at HCut HBc
                have HIm := Lib.hid (show imgK l k = match numK l kk 8 with | .inr e => .inr e | .inl (s, k6) => if s = sumS ((l.drop k).take dl) ∧ checkP (fs, (a : Int), (b : Int), (d : Int)) = 0 then .inl ((fs, (a : Int), (b : Int), (d : Int)), k6) else .inr 200 by
                  unfold imgK; rw [HPg2.out]; simp only [hdl]; cases numK l kk 8 <;> rfl)
                have HSl := Lib.hid (show ((l.drop k).take dl).length ≤ 9223372036854775807 by rw [List.length_take]; omega)
                obtain ⟨sg, hsg⟩ : ∃ sg, (l.drop k).take dl = sg := ⟨_, rfl⟩
                rw [hsg] at HBc HIm HSl
                have hsub : wrap64 ((kk : Int) - (k : Int)) = (kk : Int) - (k : Int) := by unfold wrap64; omega
                obtain ⟨aoc, cpc, hcv⟩ := HS.out.ow.form
                subst hcv
                obtain ⟨fl, hfl⟩ : ∃ fl, fs.length = fl := ⟨_, rfl⟩
                have HFl := Lib.hid hfl
                have hmI2 : (l.length : Int) ≤ 9223372036854775807 := by omega
                have hkI : (k : Int) ≤ (kk : Int) := by omega
                have hkI2 : (kk : Int) ≤ (l.length : Int) := by omega
                rw [hfl] at HS
                have e0 : wr.cell? ⟨br, 0, none⟩ = some (.slice ao l.length cap) := HS.out.ok.hr.cell 0
                have e1 : wr.cell? ⟨br, 1, none⟩ = some (.int .i64 (kk : Int)) := HS.out.ok.hr.cell 1
                clear hv1 hv2 hkk hkl hok hcu hdl hsg hfl
                go_wp2
                refine (wpIn_wide (n := 6)).1 ?_
                refine wpIn_region_inv (fun L b' w2 => ∃ B : Nat, RegC wr sg B (L 12) b' ({ tmps := #[Value.pointer (some { block := br, off := 0 }), undef, Value.pointer (some { block := n2, off := 0 }), Value.int IntKind.i64 (k : Int), Value.pointer (some { block := nf, off := 0 }), sel2 (L 14) (Value.int IntKind.u64 (sumS sg : Nat)) (undef), Value.pointer (some { block := br, off := 0 }), Value.pointer (some { block := br, off := 0 }), Value.pointer (some { block := br, off := 1 }), Value.int IntKind.i64 (k : Int), Value.pointer (some { block := br, off := 0 }), Value.tuple #[], Value.pointer (some { block := br, off := 0 }), Value.func (Fn.func 45) #[Value.pointer (some { block := br, off := 0 })] #[], Value.int IntKind.i64 (a : Int), Value.pointer (some { block := br, off := 0 }), Value.func (Fn.func 45) #[Value.pointer (some { block := br, off := 0 })] #[], Value.int IntKind.i64 (b : Int), Value.pointer (some { block := br, off := 0 }), Value.func (Fn.func 45) #[Value.pointer (some { block := br, off := 0 })] #[], Value.int IntKind.i64 (d : Int), Value.agg #[Value.slice none 0 0, Value.int IntKind.i64 (a : Int), Value.int IntKind.i64 (b : Int), Value.int IntKind.i64 (d : Int)], Value.pointer (some { block := br, off := 0 }), Value.func (Fn.func 45) #[Value.pointer (some { block := br, off := 0 })] #[], Value.int IntKind.i64 (m : Int), Value.int IntKind.i64 (j : Int), Value.bool false, u27, u28, u29, u30, u31, u32, u33, u34, sel2 (L 0) (Value.pointer (some { block := br, off := 0 })) (undef), sel2 (L 1) (Value.pointer (some { block := br, off := 0 })) (undef), sel2 (L 2) (Value.pointer (some { block := br, off := 0 })) (undef), sel2 (L 3) (Value.slice ao l.length cap) (undef), sel2 (L 4) (Value.int IntKind.i64 (k : Int)) (undef), sel2 (L 5) (Value.pointer (some { block := br, off := 0 })) (undef), sel2 (L 6) (Value.pointer (some { block := br, off := 0 })) (undef), sel2 (L 7) (Value.pointer (some { block := br, off := 1 })) (undef), sel2 (L 8) (Value.int IntKind.i64 (kk : Int)) (undef), sel2 (L 9) (Value.int IntKind.i64 (k : Int)) (undef), sel2 (L 10) (Value.int IntKind.i64 ((kk : Int) - (k : Int))) (undef), sel2 (L 11) (Value.slice ac dl dl) (undef), sel2 (L 12) (Value.slice (some { block := B, off := 0 }) 1 1) (undef), sel2 (L 13) (Value.int IntKind.u64 (sumS sg : Nat)) (undef), undef, undef, undef, undef, undef, undef, undef, undef, undef, undef, undef, undef], defers := [] }) w2) hmx (by kernel_rfl) ?inv0 ?step ?fin
                case inv0 => exact ⟨0, rfl, Adds.drew _, fun h => (by cases h)⟩
                case step =>
                  rintro L b' w2 i o ho hL hC he ⟨B, rfl, hP⟩
                  have HP := Lib.hid hP
                  have e0 : w2.cell? ⟨br, 0, none⟩ = some (.slice ao l.length cap) := (HS.out.ok.hr.adds hP.1).cell 0
                  have e1 : w2.cell? ⟨br, 1, none⟩ = some (.int .i64 (kk : Int)) := (HS.out.ok.hr.adds hP.1).cell 1
                  clear hC hP
                  rcases i with _ | _ | _ | _ | _ | _ | _ | _ | _ | _ | _ | _ | _ | _ | _ | i
                  · simp only [List.getElem?_cons_zero, Option.some.injEq] at ho
                    subst ho
                    try simp [Region.binds] at he
                    try simp only []
                    gi_wp2
                    exact ⟨B, by simp [sel2, *], HP.out.1, by first | exact HP.out.2 | simpa [he] using HP.out.2⟩
                  · simp only [List.getElem?_cons_zero, List.getElem?_cons_succ, Option.some.injEq] at ho
                    subst ho
                    try simp [Region.binds] at he
                    try simp only [he, sel2_t]
                    gi_wp2
                    exact ⟨B, by simp [sel2, *], HP.out.1, by first | exact HP.out.2 | simpa [he] using HP.out.2⟩
                  · simp only [List.getElem?_cons_zero, List.getElem?_cons_succ, Option.some.injEq] at ho
                    subst ho
                    try simp [Region.binds] at he
                    try simp only [he, sel2_t]
                    gi_wp2
                    exact ⟨B, by simp [sel2, *], HP.out.1, by first | exact HP.out.2 | simpa [he] using HP.out.2⟩
                  · simp only [List.getElem?_cons_zero, List.getElem?_cons_succ, Option.some.injEq] at ho
                    subst ho
                    try simp [Region.binds] at he
                    try simp only [he, sel2_t]
                    gi_wp2
                    exact ⟨B, by simp [sel2, *], HP.out.1, by first | exact HP.out.2 | simpa [he] using HP.out.2⟩
                  · simp only [List.getElem?_cons_zero, List.getElem?_cons_succ, Option.some.injEq] at ho
                    subst ho
                    try simp [Region.binds] at he
                    try simp only []
                    gi_wp2
                    exact ⟨B, by simp [sel2, *], HP.out.1, by first | exact HP.out.2 | simpa [he] using HP.out.2⟩
                  · simp only [List.getElem?_cons_zero, List.getElem?_cons_succ, Option.some.injEq] at ho
                    subst ho
                    try simp [Region.binds] at he
                    try simp only []
                    gi_wp2
                    exact ⟨B, by simp [sel2, *], HP.out.1, by first | exact HP.out.2 | simpa [he] using HP.out.2⟩
                  · simp only [List.getElem?_cons_zero, List.getElem?_cons_succ, Option.some.injEq] at ho
                    subst ho
                    try simp [Region.binds] at he
                    try simp only [he, sel2_t]
                    gi_wp2
                    exact ⟨B, by simp [sel2, *], HP.out.1, by first | exact HP.out.2 | simpa [he] using HP.out.2⟩
                  · simp only [List.getElem?_cons_zero, List.getElem?_cons_succ, Option.some.injEq] at ho
                    subst ho
                    try simp [Region.binds] at he
                    try simp only [he, sel2_t]
                    gi_wp2
                    exact ⟨B, by simp [sel2, *], HP.out.1, by first | exact HP.out.2 | simpa [he] using HP.out.2⟩
                  · simp only [List.getElem?_cons_zero, List.getElem?_cons_succ, Option.some.injEq] at ho
                    subst ho
                    try simp [Region.binds] at he
                    try simp only [he, sel2_t]
                    gi_wp2
                    exact ⟨B, by simp [sel2, *], HP.out.1, by first | exact HP.out.2 | simpa [he] using HP.out.2⟩
                  · simp only [List.getElem?_cons_zero, List.getElem?_cons_succ, Option.some.injEq] at ho
                    subst ho
                    try simp [Region.binds] at he
                    try simp only []
                    gi_wp2
                    exact ⟨B, by simp [sel2, *], HP.out.1, by first | exact HP.out.2 | simpa [he] using HP.out.2⟩
                  · simp only [List.getElem?_cons_zero, List.getElem?_cons_succ, Option.some.injEq] at ho
                    subst ho
                    try simp [Region.binds] at he
                    try simp only [he, sel2_t]
                    gi_wp2
                    exact ⟨B, by simp [sel2, *], HP.out.1, by first | exact HP.out.2 | simpa [he] using HP.out.2⟩
                  · simp only [List.getElem?_cons_zero, List.getElem?_cons_succ, Option.some.injEq] at ho
                    subst ho
                    try simp [Region.binds] at he
                    simp only [he, sel2_t]
                    gi_wp2_with (refine ⟨trivial, ?_⟩; gi_at_call 47; refine (callsIn_wide.2 (HCut.out w2)).mono ?_; rintro e w6 ⟨rfl, rfl⟩)
                    exact ⟨B, by simp [sel2, *], HP.out.1, by first | exact HP.out.2 | simpa [he] using HP.out.2⟩
                  · simp only [List.getElem?_cons_zero, List.getElem?_cons_succ, Option.some.injEq] at ho
                    subst ho
                    try simp [Region.binds] at he
                    simp only [he, sel2_t]
                    gi_wp2
                    exact ⟨w2.heap.size, by simp [sel2, *], Adds.trans HP.out.1 (adds_alloc _ _), fun _ => lists_1 w2 _ sg HP.out.1.size (HBc.out.here.below HP.out.1)⟩
                  · simp only [List.getElem?_cons_zero, List.getElem?_cons_succ, Option.some.injEq] at ho
                    subst ho
                    try simp [Region.binds] at he
                    have p12 : L 12 = true := by simp [he]
                    have HOf := Lib.hid (of_any (n := wr.heap.size) _ [sg] w2 (HP.out.2 p12) HP.out.1.size (by simpa using HSl.out))
                    rw [show ([sg] : List (List UInt8)).flatten = sg by simp] at HOf
                    simp only [he, sel2_t]
                    gi_wp2_with (refine ⟨trivial, ?_⟩; gi_at_call 39; refine (callsIn_wide.2 HOf.out).mono ?_; rintro e w6 ⟨rfl, a6⟩; have A6 := Lib.hid a6; clear a6)
                    exact ⟨B, by simp [sel2, *], Adds.trans HP.out.1 A6.out, fun _ => (HP.out.2 p12).below A6.out HP.out.1.size⟩
                  · simp only [List.getElem?_cons_zero, List.getElem?_cons_succ, Option.some.injEq] at ho
                    subst ho
                    try simp [Region.binds] at he
                    try simp only [he, sel2_t]
                    gi_wp2
                    exact ⟨B, by simp [sel2, *], HP.out.1, by first | exact HP.out.2 | simpa [he] using HP.out.2⟩
                  · simp at ho
                case fin =>
                  rintro b' w7 ⟨B, rfl, hA, _⟩
                  simp only [List.length_cons, List.length_nil, Nat.reduceAdd, Nat.reduceLT, decide_true, sel2_t]
                  have A7 := Lib.hid hA
                  clear hA
                  have S7 := Lib.hid (HS.out.adds A7.out)
                  have HN8 := Lib.hid (mnumU br (.slice ao l.length cap) l kk 8 w7 S7.out.ok.hn S7.out.ok.hg S7.out.ok.hv S7.out.ok.hw S7.out.ok.hr S7.out.ok.hk rfl)
                  have hrr := HRr.out
                  rw [HIm.out] at hrr
                  obtain ⟨sm, hsm⟩ : ∃ sm, sumS sg = sm := ⟨_, rfl⟩
                  rw [hsm] at hrr
                  rw [hsm]
                  clear hsm HIm HPg2
                  rcases h8 : numK l kk 8 with ⟨s, k6⟩ | er
                  · rw [h8] at HN8 hrr
                    simp only at hrr
                    have HK6 := Lib.hid (numK_in isW8 h8).2.1
                    clear h8
                    by_cases hs : s = sm
                    · subst hs
                      have HF9 := Lib.hid (fun (w9 : World) (t9 : TnS br w7 w9) (r9 : BkS 68 w9 br (rdC (.slice ao l.length cap) k6)) => checkP_any (.slice aoc fl cpc) (fs, (a : Int), (b : Int), (d : Int)) w9 ((S7.out.read t9 r9 HK6.out).ow.funcs (fun f hf x hx => (HOk.out f hf x hx).2)))
                      by_cases hc : checkP (fs, (a : Int), (b : Int), (d : Int)) = 0
                      · rw [if_pos ⟨rfl, hc⟩] at hrr
                        subst hrr
                        simp only [hc] at HF9
                        clear hc
                        simp only [Exit.then]
                        go_wp2_with (first
                          | (go_at_call 48; refine HN8.out.mono ?_; rintro e w9 ⟨rfl, r9, t9⟩; have S9 := Lib.hid (S7.out.read t9 r9 HK6.out); have HC := Lib.hid (HF9.out w9 t9 r9); clear r9 t9 HN8; have b0 : w9.cell? ⟨nf, 0, none⟩ = some (.slice aoc fl cpc) := S9.out.bx.cell 0; have b1 : w9.cell? ⟨nf, 1, none⟩ = some (.int .i64 (a : Int)) := S9.out.bx.cell 1; have b2 : w9.cell? ⟨nf, 2, none⟩ = some (.int .i64 (b : Int)) := S9.out.bx.cell 2; have b3 : w9.cell? ⟨nf, 3, none⟩ = some (.int .i64 (d : Int)) := S9.out.bx.cell 3)
                          | (go_at_call 20; refine HC.out.mono ?_; rintro e wx ⟨rfl, ax⟩; have SX := Lib.hid (S9.out.adds ax); clear ax b0 b1 b2 b3 HC; have b0 : wx.cell? ⟨nf, 0, none⟩ = some (.slice aoc fl cpc) := SX.out.bx.cell 0; have b1 : wx.cell? ⟨nf, 1, none⟩ = some (.int .i64 (a : Int)) := SX.out.bx.cell 1; have b2 : wx.cell? ⟨nf, 2, none⟩ = some (.int .i64 (b : Int)) := SX.out.bx.cell 2; have b3 : wx.cell? ⟨nf, 3, none⟩ = some (.int .i64 (d : Int)) := SX.out.bx.cell 3; have z0 : wx.cell? ⟨n2, 0, none⟩ = some (.slice none 0 0) := SX.out.rs.cell 0; have z1 : wx.cell? ⟨n2, 1, none⟩ = some (.int .i64 0) := SX.out.rs.cell 1; have z2 : wx.cell? ⟨n2, 2, none⟩ = some (.int .i64 0) := SX.out.rs.cell 2; have z3 : wx.cell? ⟨n2, 3, none⟩ = some (.int .i64 0) := SX.out.rs.cell 3; have y0 := SX.out.rs.free 0; have y1 := SX.out.rs.free 1; have y2 := SX.out.rs.free 2; have y3 := SX.out.rs.free 3; have hne1 : n2 < nf := SX.out.d3))
                        have hb := (((SX.out.rs.set 0 (.slice aoc fl cpc)).set 1 (.int .i64 (a : Int))).set 2 (.int .i64 (b : Int))).set 3 (.int .i64 (d : Int))
                        refine bodyPost_ret (res_box rfl _ _ _ #[.slice aoc fl cpc, .int .i64 (a : Int), .int .i64 (b : Int), .int .i64 (d : Int)] _ _ _ rfl hb Tryz.underlying24 rfl (by kernel_rfl)) rfl ?_
                        have d1 := SX.out.d1; have d2 := SX.out.d2
                        have hT := (((TnS.setCell n2 0 wx (.slice aoc fl cpc)).trans (TnS.setCell n2 1 _ (.int .i64 (a : Int)))).trans (TnS.setCell n2 2 _ (.int .i64 (b : Int)))).trans (TnS.setCell n2 3 _ (.int .i64 (d : Int)))
                        exact ⟨⟨_, rfl, SX.out.ow.blk SX.out.rs (by decide) (by decide) hT⟩, (((SX.out.ok.hr.other (by omega) _).other (by omega) _).other (by omega) _).other (by omega) _, SX.out.tn.mine (by omega) hT⟩
                      · rw [if_neg (fun h => hc h.2)] at hrr
                        subst hrr
                        have hc2 : checkP (fs, (a : Int), (b : Int), (d : Int)) = 2 := by
                          unfold checkP at hc ⊢
                          split
                          · rename_i h; rw [if_pos h] at hc; exact absurd rfl hc
                          · rfl
                        simp only [hc2] at HF9
                        clear hc hc2
                        simp only [Exit.then]
                        go_wp2_with (first
                          | (go_at_call 48; refine HN8.out.mono ?_; rintro e w9 ⟨rfl, r9, t9⟩; have S9 := Lib.hid (S7.out.read t9 r9 HK6.out); have HC := Lib.hid (HF9.out w9 t9 r9); clear r9 t9 HN8; have b0 : w9.cell? ⟨nf, 0, none⟩ = some (.slice aoc fl cpc) := S9.out.bx.cell 0; have b1 : w9.cell? ⟨nf, 1, none⟩ = some (.int .i64 (a : Int)) := S9.out.bx.cell 1; have b2 : w9.cell? ⟨nf, 2, none⟩ = some (.int .i64 (b : Int)) := S9.out.bx.cell 2; have b3 : w9.cell? ⟨nf, 3, none⟩ = some (.int .i64 (d : Int)) := S9.out.bx.cell 3)
                          | (go_at_call 20; refine HC.out.mono ?_; rintro e wx ⟨rfl, ax⟩; have TX := Lib.hid (S9.out.adds ax).tn; clear ax))
                        exact ⟨rfl, rfl, TX.out⟩
                    · rw [if_neg (fun h => hs h.1)] at hrr
                      subst hrr
                      have hne : ((s : Int) == (sm : Int)) = false := by rw [beq_eq_false_iff_ne]; omega
                      simp only [Exit.then]
                      go_wp2_with (go_at_call 48; refine HN8.out.mono ?_; rintro e w9 ⟨rfl, r9, t9⟩; have T9 := Lib.hid (S7.out.tn.trans t9); clear r9 t9 HN8)
                      exact ⟨rfl, rfl, T9.out⟩
                  · rw [h8] at HN8 hrr
                    simp only at hrr
                    subst hrr
                    clear h8
                    simp only [Exit.then]
                    go_wp2_with (go_at_call 48; refine HN8.out.mono ?_; rintro e w9 ⟨rfl, t9⟩; have T9 := Lib.hid (S7.out.tn.trans t9); clear t9 HN8)
                    exact ⟨rfl, rfl, T9.out⟩
          · have HHm := Lib.hid h4
            clear h4
            have hrr := HRr.out
            unfold imgK pgK at hrr
            rw [HH0.out] at hrr
            simp only [HHa.out] at hrr
            simp only [HHb.out] at hrr
            simp only [HHd.out] at hrr
            simp only [HHm.out] at hrr
            subst hrr
            go_enter Tryz.func26, Tryz.ntmps26
            go_wp2_with (first
              | (go_at_call 43; refine HB0.out.mono ?_; rintro e w2 ⟨rfl, r2, t2⟩; have S2 := Lib.hid (And.intro (R1.out.next t2 r2 HK0.out) ((TnS.of_adds br A1.out).trans t2)); have B2 := Lib.hid (B1.out.tn t2 (by have := HBr.out; omega)); clear r2 t2; have HNa := Lib.hid (S2.out.1.num 1 rfl (by decide)); rw [HHa.out] at HNa)
              | (go_at_call 44; refine HNa.out.mono ?_; rintro e w3 ⟨rfl, r3, t3⟩; have S3 := Lib.hid (And.intro (S2.out.1.next t3 r3 HK1.out) (S2.out.2.trans t3)); have B3 := Lib.hid (B2.out.tn t3 (by have := HBr.out; omega)); clear r3 t3 HNa; have HNb := Lib.hid (S3.out.1.num 1 rfl (by decide)); rw [HHb.out] at HNb)
              | (go_at_call 44; refine HNb.out.mono ?_; rintro e w4 ⟨rfl, r4, t4⟩; have S4 := Lib.hid (And.intro (S3.out.1.next t4 r4 HK2.out) (S3.out.2.trans t4)); have B4 := Lib.hid (B3.out.tn t4 (by have := HBr.out; omega)); clear r4 t4 HNb; have HNd := Lib.hid (S4.out.1.num 1 rfl (by decide)); rw [HHd.out] at HNd)
              | (go_at_call 44; refine HNd.out.mono ?_; rintro e w5 ⟨rfl, r5, t5⟩; have S5 := Lib.hid (And.intro (S4.out.1.next t5 r5 HK3.out) (S4.out.2.trans t5)); have B5 := Lib.hid (B4.out.tn t5 (by have := HBr.out; omega)); clear r5 t5 HNd; have a5 := adds_alloc w5 (.cells #[.slice none 0 0, .int .i64 (a : Int), .int .i64 (b : Int), .int .i64 (d : Int)] 24); have F5 := Lib.hid (BkS.new 24 w5 [.slice none 0 0, .int .i64 (a : Int), .int .i64 (b : Int), .int .i64 (d : Int)]); have S6 := Lib.hid (And.intro (S5.out.1.adds a5) (S5.out.2.trans (TnS.of_adds br a5))); have B6 := Lib.hid (B5.out.adds a5); have D6 := Lib.hid (show w.heap.size < w5.heap.size from B5.out.lt); clear a5; have HNm := Lib.hid (S6.out.1.num 1 rfl (by decide)); rw [HHm.out] at HNm)
              | (go_at_call 44; refine HNm.out.mono ?_; rintro e w6 ⟨rfl, t6⟩; have T6 := Lib.hid (S6.out.2.trans t6); clear t6))
            exact ⟨rfl, rfl, T6.out⟩
        · have HHd := Lib.hid h3
          clear h3
          have hrr := HRr.out
          unfold imgK pgK at hrr
          rw [HH0.out] at hrr
          simp only [HHa.out] at hrr
          simp only [HHb.out] at hrr
          simp only [HHd.out] at hrr
          subst hrr
          go_enter Tryz.func26, Tryz.ntmps26
          go_wp2_with (first
            | (go_at_call 43; refine HB0.out.mono ?_; rintro e w2 ⟨rfl, r2, t2⟩; have S2 := Lib.hid (And.intro (R1.out.next t2 r2 HK0.out) ((TnS.of_adds br A1.out).trans t2)); have B2 := Lib.hid (B1.out.tn t2 (by have := HBr.out; omega)); clear r2 t2; have HNa := Lib.hid (S2.out.1.num 1 rfl (by decide)); rw [HHa.out] at HNa)
            | (go_at_call 44; refine HNa.out.mono ?_; rintro e w3 ⟨rfl, r3, t3⟩; have S3 := Lib.hid (And.intro (S2.out.1.next t3 r3 HK1.out) (S2.out.2.trans t3)); have B3 := Lib.hid (B2.out.tn t3 (by have := HBr.out; omega)); clear r3 t3 HNa; have HNb := Lib.hid (S3.out.1.num 1 rfl (by decide)); rw [HHb.out] at HNb)
            | (go_at_call 44; refine HNb.out.mono ?_; rintro e w4 ⟨rfl, r4, t4⟩; have S4 := Lib.hid (And.intro (S3.out.1.next t4 r4 HK2.out) (S3.out.2.trans t4)); have B4 := Lib.hid (B3.out.tn t4 (by have := HBr.out; omega)); clear r4 t4 HNb; have HNd := Lib.hid (S4.out.1.num 1 rfl (by decide)); rw [HHd.out] at HNd)
            | (go_at_call 44; refine HNd.out.mono ?_; rintro e w5 ⟨rfl, t5⟩; have T5 := Lib.hid (S4.out.2.trans t5); clear t5))
          exact ⟨rfl, rfl, T5.out⟩
      · have HHb := Lib.hid h2
        clear h2
        have hrr := HRr.out
        unfold imgK pgK at hrr
        rw [HH0.out] at hrr
        simp only [HHa.out] at hrr
        simp only [HHb.out] at hrr
        subst hrr
        go_enter Tryz.func26, Tryz.ntmps26
        go_wp2_with (first
          | (go_at_call 43; refine HB0.out.mono ?_; rintro e w2 ⟨rfl, r2, t2⟩; have S2 := Lib.hid (And.intro (R1.out.next t2 r2 HK0.out) ((TnS.of_adds br A1.out).trans t2)); have B2 := Lib.hid (B1.out.tn t2 (by have := HBr.out; omega)); clear r2 t2; have HNa := Lib.hid (S2.out.1.num 1 rfl (by decide)); rw [HHa.out] at HNa)
          | (go_at_call 44; refine HNa.out.mono ?_; rintro e w3 ⟨rfl, r3, t3⟩; have S3 := Lib.hid (And.intro (S2.out.1.next t3 r3 HK1.out) (S2.out.2.trans t3)); have B3 := Lib.hid (B2.out.tn t3 (by have := HBr.out; omega)); clear r3 t3 HNa; have HNb := Lib.hid (S3.out.1.num 1 rfl (by decide)); rw [HHb.out] at HNb)
          | (go_at_call 44; refine HNb.out.mono ?_; rintro e w4 ⟨rfl, t4⟩; have T4 := Lib.hid (S3.out.2.trans t4); clear t4))
        exact ⟨rfl, rfl, T4.out⟩
    · have HHa := Lib.hid h1
      clear h1
      have hrr := HRr.out
      unfold imgK pgK at hrr
      rw [HH0.out] at hrr
      simp only [HHa.out] at hrr
      subst hrr
      go_enter Tryz.func26, Tryz.ntmps26
      go_wp2_with (first
        | (go_at_call 43; refine HB0.out.mono ?_; rintro e w2 ⟨rfl, r2, t2⟩; have S2 := Lib.hid (And.intro (R1.out.next t2 r2 HK0.out) ((TnS.of_adds br A1.out).trans t2)); have B2 := Lib.hid (B1.out.tn t2 (by have := HBr.out; omega)); clear r2 t2; have HNa := Lib.hid (S2.out.1.num 1 rfl (by decide)); rw [HHa.out] at HNa)
        | (go_at_call 44; refine HNa.out.mono ?_; rintro e w3 ⟨rfl, t3⟩; have T3 := Lib.hid (S2.out.2.trans t3); clear t3))
      exact ⟨rfl, rfl, T3.out⟩
  · rw [h0] at HB0
    have hrr := HRr.out
    unfold imgK pgK at hrr
    rw [h0] at hrr
    subst hrr
    clear h0
    go_enter Tryz.func26, Tryz.ntmps26
    go_wp2_with (first
      | (go_at_call 43; refine HB0.out.mono ?_; rintro e w2 ⟨rfl, t2⟩; have T2 := Lib.hid ((TnS.of_adds br A1.out).trans t2); clear t2))
    exact ⟨rfl, rfl, T2.out⟩
end Go.Proofs.YthhegcngkpfcoaaGreatDoor
