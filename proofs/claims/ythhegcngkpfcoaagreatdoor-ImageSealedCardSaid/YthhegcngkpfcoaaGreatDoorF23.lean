/- Merged: IG3. -/
import Derived.Test.YthhegcngkpfcoaaGreatDoorF20
import Derived.Test.YthhegcngkpfcoaaGreatDoorF22
namespace Go.Proofs.YthhegcngkpfcoaaGreatDoor
open Go Go.RowKit Go.Shelf

/-- The bytes of an instruction by what its Op names (registers a, b; a number of words, a third register; an Imm). -/
def refB (op : Nat) (ia ib ic id : Bool) (xa xb xc : UInt8) (xi : Nat) : List UInt8 :=
  [UInt8.ofNat op] ++ (if ia then [xa] else []) ++ (if ib then [xb] else []) ++ (if ic then [xc] else []) ++ (if id then fixB xi 4 else [])
structure InB (op : Nat) (ia ib cn ck di df : Bool) : Prop where
  a : ∀ W, Calls Tryz.prog 67 #[.int .i64 op, .int .u8 97] W fun e w' => e = .returned (.bool ia) ∧ Adds W w'
  b : ∀ W, Calls Tryz.prog 67 #[.int .i64 op, .int .u8 98] W fun e w' => e = .returned (.bool ib) ∧ Adds W w'
  n : ∀ W, Calls Tryz.prog 67 #[.int .i64 op, .int .u8 110] W fun e w' => e = .returned (.bool cn) ∧ Adds W w'
  k : ∀ W, Calls Tryz.prog 67 #[.int .i64 op, .int .u8 107] W fun e w' => e = .returned (.bool ck) ∧ Adds W w'
  i : ∀ W, Calls Tryz.prog 67 #[.int .i64 op, .int .u8 105] W fun e w' => e = .returned (.bool di) ∧ Adds W w'
  f : ∀ W, Calls Tryz.prog 67 #[.int .i64 op, .int .u8 102] W fun e w' => e = .returned (.bool df) ∧ Adds W w'
structure StB (w : World) (x : In) (W : World) (v : Value) (l : List UInt8) : Prop where
  box : BkS 59 W w.heap.size (insC x)
  own : OwnB W (w.heap.size + 1) v l
  add : Adds w W
  big : w.heap.size + 1 ≤ W.heap.size
theorem StB.adds {w : World} {x : In} {W W' : World} {v : Value} {l : List UInt8} (h : StB w x W v l) (ha : Adds W W') : StB w x W' v l := ⟨h.box.adds ha, h.own.adds ha, Adds.trans h.add ha, Nat.le_trans h.big ha.size⟩
theorem StB.app {w : World} {x : In} {W W' : World} {v v' : Value} {l m : List UInt8} (h : StB w x W v l) (o : OwnB W' (w.heap.size + 1) v' m) (g : W.grownBy W' v.ownBlock) : StB w x W' v' m := by
  have hlt := fun b hb => World.ownsRow.lt h.own b hb
  refine ⟨(g.block _ h.box.lt (fun e => by have := (hlt _ e.symm).1; omega)).trans h.box, o, ?_, Nat.le_trans h.big g.size⟩
  exact Below.grown h.add g h.add.size fun k hk => by have := (hlt k hk).1; omega
theorem byte8 (b : UInt8) : (b.toNat : Int) % 256 = b.toNat := by have := b.toNat_lt; omega
set_option maxRecDepth 100000 in
set_option maxHeartbeats 4000000 in
theorem refBytes_ai (op : Nat) (hI : InB op true false false false true false) (xa xb xc : UInt8) (xi : Nat) (hi : xi < 4294967296) (w : World) :
    Calls Tryz.prog 42 #[insV ((op : Int), (xa.toNat : Int), (xb.toNat : Int), (xc.toNat : Int), (xi : Int))] w (GivesB (refB op true false false true xa xb xc xi) (fun v => v) w) := by
  have hob : (op : Int) % 256 = (UInt8.ofNat op).toNat := by rw [UInt8.toNat_ofNat']; omega
  unfold refB
  obtain ⟨bo, hbo⟩ : ∃ bo, UInt8.ofNat op = bo := ⟨_, rfl⟩
  rw [hbo] at hob ⊢
  clear hbo
  have HIa := Lib.hid hI.a
  have HIb := Lib.hid hI.b
  have HIn := Lib.hid hI.n
  have HIi := Lib.hid hI.i
  have HIf := Lib.hid hI.f
  have HIk1 := Lib.hid hI.k
  obtain ⟨w1, hw1⟩ : ∃ w1, w.alloc (.cells #[.int .i64 op, .int .i64 (xa.toNat : Int), .int .i64 (xb.toNat : Int), .int .i64 (xc.toNat : Int), .int .u32 xi] 59) = w1 := ⟨_, rfl⟩
  have HB1 := Lib.hid (show BkS 59 w1 w.heap.size (insC ((op : Int), (xa.toNat : Int), (xb.toNat : Int), (xc.toNat : Int), (xi : Int))) by rw [← hw1]; exact BkS.new _ _ _)
  have hz1 : w1.heap.size = w.heap.size + 1 := by rw [← hw1]; simp
  obtain ⟨w2, hw2⟩ : ∃ w2, w1.alloc (.cells #[.int .u8 (bo.toNat : Int)] 5) = w2 := ⟨_, rfl⟩
  have S0 := Lib.hid (show StB w ((op : Int), (xa.toNat : Int), (xb.toNat : Int), (xc.toNat : Int), (xi : Int)) w2 (.slice (some ⟨w1.heap.size, 0, none⟩) 1 1) [bo] by
    rw [← hw2]
    refine ⟨HB1.out.adds (Gr.new _ _).adds, ?_, ?_, ?_⟩
    · rw [← hz1]; exact lit1 w1 _ _ rfl
    · rw [← hw1]; exact ((Gr.new _ _).alloc _).adds
    · simp; omega)
  have hab := byte8 xa
  have hbb := byte8 xb
  have hcb := byte8 xc
  have hxi : (xi : Int) % 18446744073709551616 = xi := by omega
  have b0 : w1.cell? ⟨w.heap.size, 0, none⟩ = some (.int .i64 op) := HB1.out.cell 0
  have HFx := Lib.hid (fun W => refFixed_any xi (by unfold U64; omega) 4 W)
  clear hI hz1 hi
  have c1 : w2.cell? ⟨w.heap.size, 1, none⟩ = some (.int .i64 (xa.toNat : Int)) := S0.out.box.cell 1; have c2 : w2.cell? ⟨w.heap.size, 2, none⟩ = some (.int .i64 (xb.toNat : Int)) := S0.out.box.cell 2; have c3 : w2.cell? ⟨w.heap.size, 3, none⟩ = some (.int .i64 (xc.toNat : Int)) := S0.out.box.cell 3; have c4 : w2.cell? ⟨w.heap.size, 4, none⟩ = some (.int .u32 (xi : Int)) := S0.out.box.cell 4
  go_enter Tryz.func42, Tryz.ntmps42
  go_wp2_with (first
    | (go_at_call 67; refine (HIa.out _).mono ?_; rintro e W1 ⟨rfl, q⟩; have S1 := Lib.hid (S0.out.adds q); clear c1 c2 c3 c4; have c1 : W1.cell? ⟨w.heap.size, 1, none⟩ = some (.int .i64 (xa.toNat : Int)) := S1.out.box.cell 1; have c2 : W1.cell? ⟨w.heap.size, 2, none⟩ = some (.int .i64 (xb.toNat : Int)) := S1.out.box.cell 2; have c3 : W1.cell? ⟨w.heap.size, 3, none⟩ = some (.int .i64 (xc.toNat : Int)) := S1.out.box.cell 3; have c4 : W1.cell? ⟨w.heap.size, 4, none⟩ = some (.int .u32 (xi : Int)) := S1.out.box.cell 4; clear q HIa)
    | (at_builtin; refine wp_append_b8 rfl (.tmp 14) (.tmp 18) rfl (w.heap.size + 1) _ ([bo]) rfl (by exact S1.out.own.adds (Gr.new _ _).adds) _ [xa] _ rfl (by exact (lit1 _ _ xa rfl).bytes) (by simp) (by exact (S1.out.adds (Gr.new _ _).adds).big) ?_; intro V2 W2 o g; have S2 := Lib.hid ((S1.out.adds (Gr.new _ _).adds).app o g); clear c1 c2 c3 c4; have c1 : W2.cell? ⟨w.heap.size, 1, none⟩ = some (.int .i64 (xa.toNat : Int)) := S2.out.box.cell 1; have c2 : W2.cell? ⟨w.heap.size, 2, none⟩ = some (.int .i64 (xb.toNat : Int)) := S2.out.box.cell 2; have c3 : W2.cell? ⟨w.heap.size, 3, none⟩ = some (.int .i64 (xc.toNat : Int)) := S2.out.box.cell 3; have c4 : W2.cell? ⟨w.heap.size, 4, none⟩ = some (.int .u32 (xi : Int)) := S2.out.box.cell 4; clear o g)
    | (go_at_call 67; refine (HIb.out _).mono ?_; rintro e W3 ⟨rfl, q⟩; have S3 := Lib.hid (S2.out.adds q); clear c1 c2 c3 c4; have c1 : W3.cell? ⟨w.heap.size, 1, none⟩ = some (.int .i64 (xa.toNat : Int)) := S3.out.box.cell 1; have c2 : W3.cell? ⟨w.heap.size, 2, none⟩ = some (.int .i64 (xb.toNat : Int)) := S3.out.box.cell 2; have c3 : W3.cell? ⟨w.heap.size, 3, none⟩ = some (.int .i64 (xc.toNat : Int)) := S3.out.box.cell 3; have c4 : W3.cell? ⟨w.heap.size, 4, none⟩ = some (.int .u32 (xi : Int)) := S3.out.box.cell 4; clear q HIb)
    | (go_at_call 67; refine (HIn.out _).mono ?_; rintro e W4 ⟨rfl, q⟩; have S4 := Lib.hid (S3.out.adds q); clear c1 c2 c3 c4; have c1 : W4.cell? ⟨w.heap.size, 1, none⟩ = some (.int .i64 (xa.toNat : Int)) := S4.out.box.cell 1; have c2 : W4.cell? ⟨w.heap.size, 2, none⟩ = some (.int .i64 (xb.toNat : Int)) := S4.out.box.cell 2; have c3 : W4.cell? ⟨w.heap.size, 3, none⟩ = some (.int .i64 (xc.toNat : Int)) := S4.out.box.cell 3; have c4 : W4.cell? ⟨w.heap.size, 4, none⟩ = some (.int .u32 (xi : Int)) := S4.out.box.cell 4; clear q HIn)
    | (go_at_call 67; refine (HIk1.out _).mono ?_; rintro e W5 ⟨rfl, q⟩; have S5 := Lib.hid (S4.out.adds q); clear c1 c2 c3 c4; have c1 : W5.cell? ⟨w.heap.size, 1, none⟩ = some (.int .i64 (xa.toNat : Int)) := S5.out.box.cell 1; have c2 : W5.cell? ⟨w.heap.size, 2, none⟩ = some (.int .i64 (xb.toNat : Int)) := S5.out.box.cell 2; have c3 : W5.cell? ⟨w.heap.size, 3, none⟩ = some (.int .i64 (xc.toNat : Int)) := S5.out.box.cell 3; have c4 : W5.cell? ⟨w.heap.size, 4, none⟩ = some (.int .u32 (xi : Int)) := S5.out.box.cell 4; clear q HIk1)
    | (go_at_call 67; refine (HIi.out _).mono ?_; rintro e W6 ⟨rfl, q⟩; have S6 := Lib.hid (S5.out.adds q); clear c1 c2 c3 c4; have c1 : W6.cell? ⟨w.heap.size, 1, none⟩ = some (.int .i64 (xa.toNat : Int)) := S6.out.box.cell 1; have c2 : W6.cell? ⟨w.heap.size, 2, none⟩ = some (.int .i64 (xb.toNat : Int)) := S6.out.box.cell 2; have c3 : W6.cell? ⟨w.heap.size, 3, none⟩ = some (.int .i64 (xc.toNat : Int)) := S6.out.box.cell 3; have c4 : W6.cell? ⟨w.heap.size, 4, none⟩ = some (.int .u32 (xi : Int)) := S6.out.box.cell 4; clear q HIi)
    | (go_at_call 27; refine (HFx.out _).mono ?_; rintro e W7 ⟨vf, rfl, of, q⟩; have S7 := Lib.hid (S6.out.adds q); have OF := Lib.hid of.bytes; clear q of HFx)
    | (at_builtin; refine wp_append_b8 rfl (.tmp 57) (.tmp 58) rfl (w.heap.size + 1) _ ([bo] ++ [xa]) rfl (by exact S7.out.own) _ (fixB xi 4) _ rfl (by exact OF.out) (by have := fixB_short xi 4; simp; omega) (by exact S7.out.big) ?_; intro V8 W8 o g; have S8 := Lib.hid (S7.out.app o g); clear o g))
  go_ret
  exact ⟨_, rfl, by first | exact OwnB.lower S8.out.own (Nat.le_succ _) | simpa using OwnB.lower S8.out.own (Nat.le_succ _), S8.out.add⟩
set_option maxRecDepth 100000 in
set_option maxHeartbeats 4000000 in
theorem refBytes_ab (op : Nat) (hI : InB op true true false false false false) (xa xb xc : UInt8) (xi : Nat) (hi : xi < 4294967296) (w : World) :
    Calls Tryz.prog 42 #[insV ((op : Int), (xa.toNat : Int), (xb.toNat : Int), (xc.toNat : Int), (xi : Int))] w (GivesB (refB op true true false false xa xb xc xi) (fun v => v) w) := by
  have hob : (op : Int) % 256 = (UInt8.ofNat op).toNat := by rw [UInt8.toNat_ofNat']; omega
  unfold refB
  obtain ⟨bo, hbo⟩ : ∃ bo, UInt8.ofNat op = bo := ⟨_, rfl⟩
  rw [hbo] at hob ⊢
  clear hbo
  have HIa := Lib.hid hI.a
  have HIb := Lib.hid hI.b
  have HIn := Lib.hid hI.n
  have HIi := Lib.hid hI.i
  have HIf := Lib.hid hI.f
  have HIk1 := Lib.hid hI.k
  have HIk2 := Lib.hid hI.k
  obtain ⟨w1, hw1⟩ : ∃ w1, w.alloc (.cells #[.int .i64 op, .int .i64 (xa.toNat : Int), .int .i64 (xb.toNat : Int), .int .i64 (xc.toNat : Int), .int .u32 xi] 59) = w1 := ⟨_, rfl⟩
  have HB1 := Lib.hid (show BkS 59 w1 w.heap.size (insC ((op : Int), (xa.toNat : Int), (xb.toNat : Int), (xc.toNat : Int), (xi : Int))) by rw [← hw1]; exact BkS.new _ _ _)
  have hz1 : w1.heap.size = w.heap.size + 1 := by rw [← hw1]; simp
  obtain ⟨w2, hw2⟩ : ∃ w2, w1.alloc (.cells #[.int .u8 (bo.toNat : Int)] 5) = w2 := ⟨_, rfl⟩
  have S0 := Lib.hid (show StB w ((op : Int), (xa.toNat : Int), (xb.toNat : Int), (xc.toNat : Int), (xi : Int)) w2 (.slice (some ⟨w1.heap.size, 0, none⟩) 1 1) [bo] by
    rw [← hw2]
    refine ⟨HB1.out.adds (Gr.new _ _).adds, ?_, ?_, ?_⟩
    · rw [← hz1]; exact lit1 w1 _ _ rfl
    · rw [← hw1]; exact ((Gr.new _ _).alloc _).adds
    · simp; omega)
  have hab := byte8 xa
  have hbb := byte8 xb
  have hcb := byte8 xc
  have hxi : (xi : Int) % 18446744073709551616 = xi := by omega
  have b0 : w1.cell? ⟨w.heap.size, 0, none⟩ = some (.int .i64 op) := HB1.out.cell 0
  have HFx := Lib.hid (fun W => refFixed_any xi (by unfold U64; omega) 4 W)
  clear hI hz1 hi
  have c1 : w2.cell? ⟨w.heap.size, 1, none⟩ = some (.int .i64 (xa.toNat : Int)) := S0.out.box.cell 1; have c2 : w2.cell? ⟨w.heap.size, 2, none⟩ = some (.int .i64 (xb.toNat : Int)) := S0.out.box.cell 2; have c3 : w2.cell? ⟨w.heap.size, 3, none⟩ = some (.int .i64 (xc.toNat : Int)) := S0.out.box.cell 3; have c4 : w2.cell? ⟨w.heap.size, 4, none⟩ = some (.int .u32 (xi : Int)) := S0.out.box.cell 4
  go_enter Tryz.func42, Tryz.ntmps42
  go_wp2_with (first
    | (go_at_call 67; refine (HIa.out _).mono ?_; rintro e W1 ⟨rfl, q⟩; have S1 := Lib.hid (S0.out.adds q); clear c1 c2 c3 c4; have c1 : W1.cell? ⟨w.heap.size, 1, none⟩ = some (.int .i64 (xa.toNat : Int)) := S1.out.box.cell 1; have c2 : W1.cell? ⟨w.heap.size, 2, none⟩ = some (.int .i64 (xb.toNat : Int)) := S1.out.box.cell 2; have c3 : W1.cell? ⟨w.heap.size, 3, none⟩ = some (.int .i64 (xc.toNat : Int)) := S1.out.box.cell 3; have c4 : W1.cell? ⟨w.heap.size, 4, none⟩ = some (.int .u32 (xi : Int)) := S1.out.box.cell 4; clear q HIa)
    | (at_builtin; refine wp_append_b8 rfl (.tmp 14) (.tmp 18) rfl (w.heap.size + 1) _ ([bo]) rfl (by exact S1.out.own.adds (Gr.new _ _).adds) _ [xa] _ rfl (by exact (lit1 _ _ xa rfl).bytes) (by simp) (by exact (S1.out.adds (Gr.new _ _).adds).big) ?_; intro V2 W2 o g; have S2 := Lib.hid ((S1.out.adds (Gr.new _ _).adds).app o g); clear c1 c2 c3 c4; have c1 : W2.cell? ⟨w.heap.size, 1, none⟩ = some (.int .i64 (xa.toNat : Int)) := S2.out.box.cell 1; have c2 : W2.cell? ⟨w.heap.size, 2, none⟩ = some (.int .i64 (xb.toNat : Int)) := S2.out.box.cell 2; have c3 : W2.cell? ⟨w.heap.size, 3, none⟩ = some (.int .i64 (xc.toNat : Int)) := S2.out.box.cell 3; have c4 : W2.cell? ⟨w.heap.size, 4, none⟩ = some (.int .u32 (xi : Int)) := S2.out.box.cell 4; clear o g)
    | (go_at_call 67; refine (HIb.out _).mono ?_; rintro e W3 ⟨rfl, q⟩; have S3 := Lib.hid (S2.out.adds q); clear c1 c2 c3 c4; have c1 : W3.cell? ⟨w.heap.size, 1, none⟩ = some (.int .i64 (xa.toNat : Int)) := S3.out.box.cell 1; have c2 : W3.cell? ⟨w.heap.size, 2, none⟩ = some (.int .i64 (xb.toNat : Int)) := S3.out.box.cell 2; have c3 : W3.cell? ⟨w.heap.size, 3, none⟩ = some (.int .i64 (xc.toNat : Int)) := S3.out.box.cell 3; have c4 : W3.cell? ⟨w.heap.size, 4, none⟩ = some (.int .u32 (xi : Int)) := S3.out.box.cell 4; clear q HIb)
    | (at_builtin; refine wp_append_b8 rfl (.tmp 22) (.tmp 26) rfl (w.heap.size + 1) _ ([bo] ++ [xa]) rfl (by exact S3.out.own.adds (Gr.new _ _).adds) _ [xb] _ rfl (by exact (lit1 _ _ xb rfl).bytes) (by simp) (by exact (S3.out.adds (Gr.new _ _).adds).big) ?_; intro V4 W4 o g; have S4 := Lib.hid ((S3.out.adds (Gr.new _ _).adds).app o g); clear c1 c2 c3 c4; have c1 : W4.cell? ⟨w.heap.size, 1, none⟩ = some (.int .i64 (xa.toNat : Int)) := S4.out.box.cell 1; have c2 : W4.cell? ⟨w.heap.size, 2, none⟩ = some (.int .i64 (xb.toNat : Int)) := S4.out.box.cell 2; have c3 : W4.cell? ⟨w.heap.size, 3, none⟩ = some (.int .i64 (xc.toNat : Int)) := S4.out.box.cell 3; have c4 : W4.cell? ⟨w.heap.size, 4, none⟩ = some (.int .u32 (xi : Int)) := S4.out.box.cell 4; clear o g)
    | (go_at_call 67; refine (HIn.out _).mono ?_; rintro e W5 ⟨rfl, q⟩; have S5 := Lib.hid (S4.out.adds q); clear c1 c2 c3 c4; have c1 : W5.cell? ⟨w.heap.size, 1, none⟩ = some (.int .i64 (xa.toNat : Int)) := S5.out.box.cell 1; have c2 : W5.cell? ⟨w.heap.size, 2, none⟩ = some (.int .i64 (xb.toNat : Int)) := S5.out.box.cell 2; have c3 : W5.cell? ⟨w.heap.size, 3, none⟩ = some (.int .i64 (xc.toNat : Int)) := S5.out.box.cell 3; have c4 : W5.cell? ⟨w.heap.size, 4, none⟩ = some (.int .u32 (xi : Int)) := S5.out.box.cell 4; clear q HIn)
    | (go_at_call 67; refine (HIk1.out _).mono ?_; rintro e W6 ⟨rfl, q⟩; have S6 := Lib.hid (S5.out.adds q); clear c1 c2 c3 c4; have c1 : W6.cell? ⟨w.heap.size, 1, none⟩ = some (.int .i64 (xa.toNat : Int)) := S6.out.box.cell 1; have c2 : W6.cell? ⟨w.heap.size, 2, none⟩ = some (.int .i64 (xb.toNat : Int)) := S6.out.box.cell 2; have c3 : W6.cell? ⟨w.heap.size, 3, none⟩ = some (.int .i64 (xc.toNat : Int)) := S6.out.box.cell 3; have c4 : W6.cell? ⟨w.heap.size, 4, none⟩ = some (.int .u32 (xi : Int)) := S6.out.box.cell 4; clear q HIk1)
    | (go_at_call 67; refine (HIi.out _).mono ?_; rintro e W7 ⟨rfl, q⟩; have S7 := Lib.hid (S6.out.adds q); clear c1 c2 c3 c4; have c1 : W7.cell? ⟨w.heap.size, 1, none⟩ = some (.int .i64 (xa.toNat : Int)) := S7.out.box.cell 1; have c2 : W7.cell? ⟨w.heap.size, 2, none⟩ = some (.int .i64 (xb.toNat : Int)) := S7.out.box.cell 2; have c3 : W7.cell? ⟨w.heap.size, 3, none⟩ = some (.int .i64 (xc.toNat : Int)) := S7.out.box.cell 3; have c4 : W7.cell? ⟨w.heap.size, 4, none⟩ = some (.int .u32 (xi : Int)) := S7.out.box.cell 4; clear q HIi)
    | (go_at_call 67; refine (HIf.out _).mono ?_; rintro e W8 ⟨rfl, q⟩; have S8 := Lib.hid (S7.out.adds q); clear c1 c2 c3 c4; have c1 : W8.cell? ⟨w.heap.size, 1, none⟩ = some (.int .i64 (xa.toNat : Int)) := S8.out.box.cell 1; have c2 : W8.cell? ⟨w.heap.size, 2, none⟩ = some (.int .i64 (xb.toNat : Int)) := S8.out.box.cell 2; have c3 : W8.cell? ⟨w.heap.size, 3, none⟩ = some (.int .i64 (xc.toNat : Int)) := S8.out.box.cell 3; have c4 : W8.cell? ⟨w.heap.size, 4, none⟩ = some (.int .u32 (xi : Int)) := S8.out.box.cell 4; clear q HIf)
    | (go_at_call 67; refine (HIk2.out _).mono ?_; rintro e W9 ⟨rfl, q⟩; have S9 := Lib.hid (S8.out.adds q); clear c1 c2 c3 c4; have c1 : W9.cell? ⟨w.heap.size, 1, none⟩ = some (.int .i64 (xa.toNat : Int)) := S9.out.box.cell 1; have c2 : W9.cell? ⟨w.heap.size, 2, none⟩ = some (.int .i64 (xb.toNat : Int)) := S9.out.box.cell 2; have c3 : W9.cell? ⟨w.heap.size, 3, none⟩ = some (.int .i64 (xc.toNat : Int)) := S9.out.box.cell 3; have c4 : W9.cell? ⟨w.heap.size, 4, none⟩ = some (.int .u32 (xi : Int)) := S9.out.box.cell 4; clear q HIk2))
  go_ret
  exact ⟨_, rfl, by first | exact OwnB.lower S9.out.own (Nat.le_succ _) | simpa using OwnB.lower S9.out.own (Nat.le_succ _), S9.out.add⟩
set_option maxRecDepth 100000 in
set_option maxHeartbeats 4000000 in
theorem refBytes_abck (op : Nat) (hI : InB op true true false true false false) (xa xb xc : UInt8) (xi : Nat) (hi : xi < 4294967296) (w : World) :
    Calls Tryz.prog 42 #[insV ((op : Int), (xa.toNat : Int), (xb.toNat : Int), (xc.toNat : Int), (xi : Int))] w (GivesB (refB op true true true true xa xb xc xi) (fun v => v) w) := by
  have hob : (op : Int) % 256 = (UInt8.ofNat op).toNat := by rw [UInt8.toNat_ofNat']; omega
  unfold refB
  obtain ⟨bo, hbo⟩ : ∃ bo, UInt8.ofNat op = bo := ⟨_, rfl⟩
  rw [hbo] at hob ⊢
  clear hbo
  have HIa := Lib.hid hI.a
  have HIb := Lib.hid hI.b
  have HIn := Lib.hid hI.n
  have HIi := Lib.hid hI.i
  have HIf := Lib.hid hI.f
  have HIk1 := Lib.hid hI.k
  have HIk2 := Lib.hid hI.k
  obtain ⟨w1, hw1⟩ : ∃ w1, w.alloc (.cells #[.int .i64 op, .int .i64 (xa.toNat : Int), .int .i64 (xb.toNat : Int), .int .i64 (xc.toNat : Int), .int .u32 xi] 59) = w1 := ⟨_, rfl⟩
  have HB1 := Lib.hid (show BkS 59 w1 w.heap.size (insC ((op : Int), (xa.toNat : Int), (xb.toNat : Int), (xc.toNat : Int), (xi : Int))) by rw [← hw1]; exact BkS.new _ _ _)
  have hz1 : w1.heap.size = w.heap.size + 1 := by rw [← hw1]; simp
  obtain ⟨w2, hw2⟩ : ∃ w2, w1.alloc (.cells #[.int .u8 (bo.toNat : Int)] 5) = w2 := ⟨_, rfl⟩
  have S0 := Lib.hid (show StB w ((op : Int), (xa.toNat : Int), (xb.toNat : Int), (xc.toNat : Int), (xi : Int)) w2 (.slice (some ⟨w1.heap.size, 0, none⟩) 1 1) [bo] by
    rw [← hw2]
    refine ⟨HB1.out.adds (Gr.new _ _).adds, ?_, ?_, ?_⟩
    · rw [← hz1]; exact lit1 w1 _ _ rfl
    · rw [← hw1]; exact ((Gr.new _ _).alloc _).adds
    · simp; omega)
  have hab := byte8 xa
  have hbb := byte8 xb
  have hcb := byte8 xc
  have hxi : (xi : Int) % 18446744073709551616 = xi := by omega
  have b0 : w1.cell? ⟨w.heap.size, 0, none⟩ = some (.int .i64 op) := HB1.out.cell 0
  have HFx := Lib.hid (fun W => refFixed_any xi (by unfold U64; omega) 4 W)
  clear hI hz1 hi
  have c1 : w2.cell? ⟨w.heap.size, 1, none⟩ = some (.int .i64 (xa.toNat : Int)) := S0.out.box.cell 1; have c2 : w2.cell? ⟨w.heap.size, 2, none⟩ = some (.int .i64 (xb.toNat : Int)) := S0.out.box.cell 2; have c3 : w2.cell? ⟨w.heap.size, 3, none⟩ = some (.int .i64 (xc.toNat : Int)) := S0.out.box.cell 3; have c4 : w2.cell? ⟨w.heap.size, 4, none⟩ = some (.int .u32 (xi : Int)) := S0.out.box.cell 4
  go_enter Tryz.func42, Tryz.ntmps42
  go_wp2_with (first
    | (go_at_call 67; refine (HIa.out _).mono ?_; rintro e W1 ⟨rfl, q⟩; have S1 := Lib.hid (S0.out.adds q); clear c1 c2 c3 c4; have c1 : W1.cell? ⟨w.heap.size, 1, none⟩ = some (.int .i64 (xa.toNat : Int)) := S1.out.box.cell 1; have c2 : W1.cell? ⟨w.heap.size, 2, none⟩ = some (.int .i64 (xb.toNat : Int)) := S1.out.box.cell 2; have c3 : W1.cell? ⟨w.heap.size, 3, none⟩ = some (.int .i64 (xc.toNat : Int)) := S1.out.box.cell 3; have c4 : W1.cell? ⟨w.heap.size, 4, none⟩ = some (.int .u32 (xi : Int)) := S1.out.box.cell 4; clear q HIa)
    | (at_builtin; refine wp_append_b8 rfl (.tmp 14) (.tmp 18) rfl (w.heap.size + 1) _ ([bo]) rfl (by exact S1.out.own.adds (Gr.new _ _).adds) _ [xa] _ rfl (by exact (lit1 _ _ xa rfl).bytes) (by simp) (by exact (S1.out.adds (Gr.new _ _).adds).big) ?_; intro V2 W2 o g; have S2 := Lib.hid ((S1.out.adds (Gr.new _ _).adds).app o g); clear c1 c2 c3 c4; have c1 : W2.cell? ⟨w.heap.size, 1, none⟩ = some (.int .i64 (xa.toNat : Int)) := S2.out.box.cell 1; have c2 : W2.cell? ⟨w.heap.size, 2, none⟩ = some (.int .i64 (xb.toNat : Int)) := S2.out.box.cell 2; have c3 : W2.cell? ⟨w.heap.size, 3, none⟩ = some (.int .i64 (xc.toNat : Int)) := S2.out.box.cell 3; have c4 : W2.cell? ⟨w.heap.size, 4, none⟩ = some (.int .u32 (xi : Int)) := S2.out.box.cell 4; clear o g)
    | (go_at_call 67; refine (HIb.out _).mono ?_; rintro e W3 ⟨rfl, q⟩; have S3 := Lib.hid (S2.out.adds q); clear c1 c2 c3 c4; have c1 : W3.cell? ⟨w.heap.size, 1, none⟩ = some (.int .i64 (xa.toNat : Int)) := S3.out.box.cell 1; have c2 : W3.cell? ⟨w.heap.size, 2, none⟩ = some (.int .i64 (xb.toNat : Int)) := S3.out.box.cell 2; have c3 : W3.cell? ⟨w.heap.size, 3, none⟩ = some (.int .i64 (xc.toNat : Int)) := S3.out.box.cell 3; have c4 : W3.cell? ⟨w.heap.size, 4, none⟩ = some (.int .u32 (xi : Int)) := S3.out.box.cell 4; clear q HIb)
    | (at_builtin; refine wp_append_b8 rfl (.tmp 22) (.tmp 26) rfl (w.heap.size + 1) _ ([bo] ++ [xa]) rfl (by exact S3.out.own.adds (Gr.new _ _).adds) _ [xb] _ rfl (by exact (lit1 _ _ xb rfl).bytes) (by simp) (by exact (S3.out.adds (Gr.new _ _).adds).big) ?_; intro V4 W4 o g; have S4 := Lib.hid ((S3.out.adds (Gr.new _ _).adds).app o g); clear c1 c2 c3 c4; have c1 : W4.cell? ⟨w.heap.size, 1, none⟩ = some (.int .i64 (xa.toNat : Int)) := S4.out.box.cell 1; have c2 : W4.cell? ⟨w.heap.size, 2, none⟩ = some (.int .i64 (xb.toNat : Int)) := S4.out.box.cell 2; have c3 : W4.cell? ⟨w.heap.size, 3, none⟩ = some (.int .i64 (xc.toNat : Int)) := S4.out.box.cell 3; have c4 : W4.cell? ⟨w.heap.size, 4, none⟩ = some (.int .u32 (xi : Int)) := S4.out.box.cell 4; clear o g)
    | (go_at_call 67; refine (HIn.out _).mono ?_; rintro e W5 ⟨rfl, q⟩; have S5 := Lib.hid (S4.out.adds q); clear c1 c2 c3 c4; have c1 : W5.cell? ⟨w.heap.size, 1, none⟩ = some (.int .i64 (xa.toNat : Int)) := S5.out.box.cell 1; have c2 : W5.cell? ⟨w.heap.size, 2, none⟩ = some (.int .i64 (xb.toNat : Int)) := S5.out.box.cell 2; have c3 : W5.cell? ⟨w.heap.size, 3, none⟩ = some (.int .i64 (xc.toNat : Int)) := S5.out.box.cell 3; have c4 : W5.cell? ⟨w.heap.size, 4, none⟩ = some (.int .u32 (xi : Int)) := S5.out.box.cell 4; clear q HIn)
    | (go_at_call 67; refine (HIk1.out _).mono ?_; rintro e W6 ⟨rfl, q⟩; have S6 := Lib.hid (S5.out.adds q); clear c1 c2 c3 c4; have c1 : W6.cell? ⟨w.heap.size, 1, none⟩ = some (.int .i64 (xa.toNat : Int)) := S6.out.box.cell 1; have c2 : W6.cell? ⟨w.heap.size, 2, none⟩ = some (.int .i64 (xb.toNat : Int)) := S6.out.box.cell 2; have c3 : W6.cell? ⟨w.heap.size, 3, none⟩ = some (.int .i64 (xc.toNat : Int)) := S6.out.box.cell 3; have c4 : W6.cell? ⟨w.heap.size, 4, none⟩ = some (.int .u32 (xi : Int)) := S6.out.box.cell 4; clear q HIk1)
    | (at_builtin; refine wp_append_b8 rfl (.tmp 34) (.tmp 38) rfl (w.heap.size + 1) _ ([bo] ++ [xa] ++ [xb]) rfl (by exact S6.out.own.adds (Gr.new _ _).adds) _ [xc] _ rfl (by exact (lit1 _ _ xc rfl).bytes) (by simp) (by exact (S6.out.adds (Gr.new _ _).adds).big) ?_; intro V7 W7 o g; have S7 := Lib.hid ((S6.out.adds (Gr.new _ _).adds).app o g); clear c1 c2 c3 c4; have c1 : W7.cell? ⟨w.heap.size, 1, none⟩ = some (.int .i64 (xa.toNat : Int)) := S7.out.box.cell 1; have c2 : W7.cell? ⟨w.heap.size, 2, none⟩ = some (.int .i64 (xb.toNat : Int)) := S7.out.box.cell 2; have c3 : W7.cell? ⟨w.heap.size, 3, none⟩ = some (.int .i64 (xc.toNat : Int)) := S7.out.box.cell 3; have c4 : W7.cell? ⟨w.heap.size, 4, none⟩ = some (.int .u32 (xi : Int)) := S7.out.box.cell 4; clear o g)
    | (go_at_call 67; refine (HIi.out _).mono ?_; rintro e W8 ⟨rfl, q⟩; have S8 := Lib.hid (S7.out.adds q); clear c1 c2 c3 c4; have c1 : W8.cell? ⟨w.heap.size, 1, none⟩ = some (.int .i64 (xa.toNat : Int)) := S8.out.box.cell 1; have c2 : W8.cell? ⟨w.heap.size, 2, none⟩ = some (.int .i64 (xb.toNat : Int)) := S8.out.box.cell 2; have c3 : W8.cell? ⟨w.heap.size, 3, none⟩ = some (.int .i64 (xc.toNat : Int)) := S8.out.box.cell 3; have c4 : W8.cell? ⟨w.heap.size, 4, none⟩ = some (.int .u32 (xi : Int)) := S8.out.box.cell 4; clear q HIi)
    | (go_at_call 67; refine (HIf.out _).mono ?_; rintro e W9 ⟨rfl, q⟩; have S9 := Lib.hid (S8.out.adds q); clear c1 c2 c3 c4; have c1 : W9.cell? ⟨w.heap.size, 1, none⟩ = some (.int .i64 (xa.toNat : Int)) := S9.out.box.cell 1; have c2 : W9.cell? ⟨w.heap.size, 2, none⟩ = some (.int .i64 (xb.toNat : Int)) := S9.out.box.cell 2; have c3 : W9.cell? ⟨w.heap.size, 3, none⟩ = some (.int .i64 (xc.toNat : Int)) := S9.out.box.cell 3; have c4 : W9.cell? ⟨w.heap.size, 4, none⟩ = some (.int .u32 (xi : Int)) := S9.out.box.cell 4; clear q HIf)
    | (go_at_call 67; refine (HIk2.out _).mono ?_; rintro e W10 ⟨rfl, q⟩; have S10 := Lib.hid (S9.out.adds q); clear c1 c2 c3 c4; have c1 : W10.cell? ⟨w.heap.size, 1, none⟩ = some (.int .i64 (xa.toNat : Int)) := S10.out.box.cell 1; have c2 : W10.cell? ⟨w.heap.size, 2, none⟩ = some (.int .i64 (xb.toNat : Int)) := S10.out.box.cell 2; have c3 : W10.cell? ⟨w.heap.size, 3, none⟩ = some (.int .i64 (xc.toNat : Int)) := S10.out.box.cell 3; have c4 : W10.cell? ⟨w.heap.size, 4, none⟩ = some (.int .u32 (xi : Int)) := S10.out.box.cell 4; clear q HIk2)
    | (go_at_call 27; refine (HFx.out _).mono ?_; rintro e W11 ⟨vf, rfl, of, q⟩; have S11 := Lib.hid (S10.out.adds q); have OF := Lib.hid of.bytes; clear q of HFx)
    | (at_builtin; refine wp_append_b8 rfl (.tmp 57) (.tmp 58) rfl (w.heap.size + 1) _ ([bo] ++ [xa] ++ [xb] ++ [xc]) rfl (by exact S11.out.own) _ (fixB xi 4) _ rfl (by exact OF.out) (by have := fixB_short xi 4; simp; omega) (by exact S11.out.big) ?_; intro V12 W12 o g; have S12 := Lib.hid (S11.out.app o g); clear o g))
  go_ret
  exact ⟨_, rfl, by first | exact OwnB.lower S12.out.own (Nat.le_succ _) | simpa using OwnB.lower S12.out.own (Nat.le_succ _), S12.out.add⟩
set_option maxRecDepth 100000 in
set_option maxHeartbeats 4000000 in
theorem refBytes_i (op : Nat) (hI : InB op false false false false true false) (xa xb xc : UInt8) (xi : Nat) (hi : xi < 4294967296) (w : World) :
    Calls Tryz.prog 42 #[insV ((op : Int), (xa.toNat : Int), (xb.toNat : Int), (xc.toNat : Int), (xi : Int))] w (GivesB (refB op false false false true xa xb xc xi) (fun v => v) w) := by
  have hob : (op : Int) % 256 = (UInt8.ofNat op).toNat := by rw [UInt8.toNat_ofNat']; omega
  unfold refB
  obtain ⟨bo, hbo⟩ : ∃ bo, UInt8.ofNat op = bo := ⟨_, rfl⟩
  rw [hbo] at hob ⊢
  clear hbo
  have HIa := Lib.hid hI.a
  have HIb := Lib.hid hI.b
  have HIn := Lib.hid hI.n
  have HIi := Lib.hid hI.i
  have HIf := Lib.hid hI.f
  have HIk1 := Lib.hid hI.k
  obtain ⟨w1, hw1⟩ : ∃ w1, w.alloc (.cells #[.int .i64 op, .int .i64 (xa.toNat : Int), .int .i64 (xb.toNat : Int), .int .i64 (xc.toNat : Int), .int .u32 xi] 59) = w1 := ⟨_, rfl⟩
  have HB1 := Lib.hid (show BkS 59 w1 w.heap.size (insC ((op : Int), (xa.toNat : Int), (xb.toNat : Int), (xc.toNat : Int), (xi : Int))) by rw [← hw1]; exact BkS.new _ _ _)
  have hz1 : w1.heap.size = w.heap.size + 1 := by rw [← hw1]; simp
  obtain ⟨w2, hw2⟩ : ∃ w2, w1.alloc (.cells #[.int .u8 (bo.toNat : Int)] 5) = w2 := ⟨_, rfl⟩
  have S0 := Lib.hid (show StB w ((op : Int), (xa.toNat : Int), (xb.toNat : Int), (xc.toNat : Int), (xi : Int)) w2 (.slice (some ⟨w1.heap.size, 0, none⟩) 1 1) [bo] by
    rw [← hw2]
    refine ⟨HB1.out.adds (Gr.new _ _).adds, ?_, ?_, ?_⟩
    · rw [← hz1]; exact lit1 w1 _ _ rfl
    · rw [← hw1]; exact ((Gr.new _ _).alloc _).adds
    · simp; omega)
  have hab := byte8 xa
  have hbb := byte8 xb
  have hcb := byte8 xc
  have hxi : (xi : Int) % 18446744073709551616 = xi := by omega
  have b0 : w1.cell? ⟨w.heap.size, 0, none⟩ = some (.int .i64 op) := HB1.out.cell 0
  have HFx := Lib.hid (fun W => refFixed_any xi (by unfold U64; omega) 4 W)
  clear hI hz1 hi
  have c1 : w2.cell? ⟨w.heap.size, 1, none⟩ = some (.int .i64 (xa.toNat : Int)) := S0.out.box.cell 1; have c2 : w2.cell? ⟨w.heap.size, 2, none⟩ = some (.int .i64 (xb.toNat : Int)) := S0.out.box.cell 2; have c3 : w2.cell? ⟨w.heap.size, 3, none⟩ = some (.int .i64 (xc.toNat : Int)) := S0.out.box.cell 3; have c4 : w2.cell? ⟨w.heap.size, 4, none⟩ = some (.int .u32 (xi : Int)) := S0.out.box.cell 4
  go_enter Tryz.func42, Tryz.ntmps42
  go_wp2_with (first
    | (go_at_call 67; refine (HIa.out _).mono ?_; rintro e W1 ⟨rfl, q⟩; have S1 := Lib.hid (S0.out.adds q); clear c1 c2 c3 c4; have c1 : W1.cell? ⟨w.heap.size, 1, none⟩ = some (.int .i64 (xa.toNat : Int)) := S1.out.box.cell 1; have c2 : W1.cell? ⟨w.heap.size, 2, none⟩ = some (.int .i64 (xb.toNat : Int)) := S1.out.box.cell 2; have c3 : W1.cell? ⟨w.heap.size, 3, none⟩ = some (.int .i64 (xc.toNat : Int)) := S1.out.box.cell 3; have c4 : W1.cell? ⟨w.heap.size, 4, none⟩ = some (.int .u32 (xi : Int)) := S1.out.box.cell 4; clear q HIa)
    | (go_at_call 67; refine (HIb.out _).mono ?_; rintro e W2 ⟨rfl, q⟩; have S2 := Lib.hid (S1.out.adds q); clear c1 c2 c3 c4; have c1 : W2.cell? ⟨w.heap.size, 1, none⟩ = some (.int .i64 (xa.toNat : Int)) := S2.out.box.cell 1; have c2 : W2.cell? ⟨w.heap.size, 2, none⟩ = some (.int .i64 (xb.toNat : Int)) := S2.out.box.cell 2; have c3 : W2.cell? ⟨w.heap.size, 3, none⟩ = some (.int .i64 (xc.toNat : Int)) := S2.out.box.cell 3; have c4 : W2.cell? ⟨w.heap.size, 4, none⟩ = some (.int .u32 (xi : Int)) := S2.out.box.cell 4; clear q HIb)
    | (go_at_call 67; refine (HIn.out _).mono ?_; rintro e W3 ⟨rfl, q⟩; have S3 := Lib.hid (S2.out.adds q); clear c1 c2 c3 c4; have c1 : W3.cell? ⟨w.heap.size, 1, none⟩ = some (.int .i64 (xa.toNat : Int)) := S3.out.box.cell 1; have c2 : W3.cell? ⟨w.heap.size, 2, none⟩ = some (.int .i64 (xb.toNat : Int)) := S3.out.box.cell 2; have c3 : W3.cell? ⟨w.heap.size, 3, none⟩ = some (.int .i64 (xc.toNat : Int)) := S3.out.box.cell 3; have c4 : W3.cell? ⟨w.heap.size, 4, none⟩ = some (.int .u32 (xi : Int)) := S3.out.box.cell 4; clear q HIn)
    | (go_at_call 67; refine (HIk1.out _).mono ?_; rintro e W4 ⟨rfl, q⟩; have S4 := Lib.hid (S3.out.adds q); clear c1 c2 c3 c4; have c1 : W4.cell? ⟨w.heap.size, 1, none⟩ = some (.int .i64 (xa.toNat : Int)) := S4.out.box.cell 1; have c2 : W4.cell? ⟨w.heap.size, 2, none⟩ = some (.int .i64 (xb.toNat : Int)) := S4.out.box.cell 2; have c3 : W4.cell? ⟨w.heap.size, 3, none⟩ = some (.int .i64 (xc.toNat : Int)) := S4.out.box.cell 3; have c4 : W4.cell? ⟨w.heap.size, 4, none⟩ = some (.int .u32 (xi : Int)) := S4.out.box.cell 4; clear q HIk1)
    | (go_at_call 67; refine (HIi.out _).mono ?_; rintro e W5 ⟨rfl, q⟩; have S5 := Lib.hid (S4.out.adds q); clear c1 c2 c3 c4; have c1 : W5.cell? ⟨w.heap.size, 1, none⟩ = some (.int .i64 (xa.toNat : Int)) := S5.out.box.cell 1; have c2 : W5.cell? ⟨w.heap.size, 2, none⟩ = some (.int .i64 (xb.toNat : Int)) := S5.out.box.cell 2; have c3 : W5.cell? ⟨w.heap.size, 3, none⟩ = some (.int .i64 (xc.toNat : Int)) := S5.out.box.cell 3; have c4 : W5.cell? ⟨w.heap.size, 4, none⟩ = some (.int .u32 (xi : Int)) := S5.out.box.cell 4; clear q HIi)
    | (go_at_call 27; refine (HFx.out _).mono ?_; rintro e W6 ⟨vf, rfl, of, q⟩; have S6 := Lib.hid (S5.out.adds q); have OF := Lib.hid of.bytes; clear q of HFx)
    | (at_builtin; refine wp_append_b8 rfl (.tmp 57) (.tmp 58) rfl (w.heap.size + 1) _ ([bo]) rfl (by exact S6.out.own) _ (fixB xi 4) _ rfl (by exact OF.out) (by have := fixB_short xi 4; simp; omega) (by exact S6.out.big) ?_; intro V7 W7 o g; have S7 := Lib.hid (S6.out.app o g); clear o g))
  go_ret
  exact ⟨_, rfl, by first | exact OwnB.lower S7.out.own (Nat.le_succ _) | simpa using OwnB.lower S7.out.own (Nat.le_succ _), S7.out.add⟩
set_option maxRecDepth 100000 in
set_option maxHeartbeats 4000000 in
theorem refBytes_abnf (op : Nat) (hI : InB op true true true false false true) (xa xb xc : UInt8) (xi : Nat) (hi : xi < 4294967296) (w : World) :
    Calls Tryz.prog 42 #[insV ((op : Int), (xa.toNat : Int), (xb.toNat : Int), (xc.toNat : Int), (xi : Int))] w (GivesB (refB op true true true true xa xb xc xi) (fun v => v) w) := by
  have hob : (op : Int) % 256 = (UInt8.ofNat op).toNat := by rw [UInt8.toNat_ofNat']; omega
  unfold refB
  obtain ⟨bo, hbo⟩ : ∃ bo, UInt8.ofNat op = bo := ⟨_, rfl⟩
  rw [hbo] at hob ⊢
  clear hbo
  have HIa := Lib.hid hI.a
  have HIb := Lib.hid hI.b
  have HIn := Lib.hid hI.n
  have HIi := Lib.hid hI.i
  have HIf := Lib.hid hI.f
  obtain ⟨w1, hw1⟩ : ∃ w1, w.alloc (.cells #[.int .i64 op, .int .i64 (xa.toNat : Int), .int .i64 (xb.toNat : Int), .int .i64 (xc.toNat : Int), .int .u32 xi] 59) = w1 := ⟨_, rfl⟩
  have HB1 := Lib.hid (show BkS 59 w1 w.heap.size (insC ((op : Int), (xa.toNat : Int), (xb.toNat : Int), (xc.toNat : Int), (xi : Int))) by rw [← hw1]; exact BkS.new _ _ _)
  have hz1 : w1.heap.size = w.heap.size + 1 := by rw [← hw1]; simp
  obtain ⟨w2, hw2⟩ : ∃ w2, w1.alloc (.cells #[.int .u8 (bo.toNat : Int)] 5) = w2 := ⟨_, rfl⟩
  have S0 := Lib.hid (show StB w ((op : Int), (xa.toNat : Int), (xb.toNat : Int), (xc.toNat : Int), (xi : Int)) w2 (.slice (some ⟨w1.heap.size, 0, none⟩) 1 1) [bo] by
    rw [← hw2]
    refine ⟨HB1.out.adds (Gr.new _ _).adds, ?_, ?_, ?_⟩
    · rw [← hz1]; exact lit1 w1 _ _ rfl
    · rw [← hw1]; exact ((Gr.new _ _).alloc _).adds
    · simp; omega)
  have hab := byte8 xa
  have hbb := byte8 xb
  have hcb := byte8 xc
  have hxi : (xi : Int) % 18446744073709551616 = xi := by omega
  have b0 : w1.cell? ⟨w.heap.size, 0, none⟩ = some (.int .i64 op) := HB1.out.cell 0
  have HFx := Lib.hid (fun W => refFixed_any xi (by unfold U64; omega) 4 W)
  clear hI hz1 hi
  have c1 : w2.cell? ⟨w.heap.size, 1, none⟩ = some (.int .i64 (xa.toNat : Int)) := S0.out.box.cell 1; have c2 : w2.cell? ⟨w.heap.size, 2, none⟩ = some (.int .i64 (xb.toNat : Int)) := S0.out.box.cell 2; have c3 : w2.cell? ⟨w.heap.size, 3, none⟩ = some (.int .i64 (xc.toNat : Int)) := S0.out.box.cell 3; have c4 : w2.cell? ⟨w.heap.size, 4, none⟩ = some (.int .u32 (xi : Int)) := S0.out.box.cell 4
  go_enter Tryz.func42, Tryz.ntmps42
  go_wp2_with (first
    | (go_at_call 67; refine (HIa.out _).mono ?_; rintro e W1 ⟨rfl, q⟩; have S1 := Lib.hid (S0.out.adds q); clear c1 c2 c3 c4; have c1 : W1.cell? ⟨w.heap.size, 1, none⟩ = some (.int .i64 (xa.toNat : Int)) := S1.out.box.cell 1; have c2 : W1.cell? ⟨w.heap.size, 2, none⟩ = some (.int .i64 (xb.toNat : Int)) := S1.out.box.cell 2; have c3 : W1.cell? ⟨w.heap.size, 3, none⟩ = some (.int .i64 (xc.toNat : Int)) := S1.out.box.cell 3; have c4 : W1.cell? ⟨w.heap.size, 4, none⟩ = some (.int .u32 (xi : Int)) := S1.out.box.cell 4; clear q HIa)
    | (at_builtin; refine wp_append_b8 rfl (.tmp 14) (.tmp 18) rfl (w.heap.size + 1) _ ([bo]) rfl (by exact S1.out.own.adds (Gr.new _ _).adds) _ [xa] _ rfl (by exact (lit1 _ _ xa rfl).bytes) (by simp) (by exact (S1.out.adds (Gr.new _ _).adds).big) ?_; intro V2 W2 o g; have S2 := Lib.hid ((S1.out.adds (Gr.new _ _).adds).app o g); clear c1 c2 c3 c4; have c1 : W2.cell? ⟨w.heap.size, 1, none⟩ = some (.int .i64 (xa.toNat : Int)) := S2.out.box.cell 1; have c2 : W2.cell? ⟨w.heap.size, 2, none⟩ = some (.int .i64 (xb.toNat : Int)) := S2.out.box.cell 2; have c3 : W2.cell? ⟨w.heap.size, 3, none⟩ = some (.int .i64 (xc.toNat : Int)) := S2.out.box.cell 3; have c4 : W2.cell? ⟨w.heap.size, 4, none⟩ = some (.int .u32 (xi : Int)) := S2.out.box.cell 4; clear o g)
    | (go_at_call 67; refine (HIb.out _).mono ?_; rintro e W3 ⟨rfl, q⟩; have S3 := Lib.hid (S2.out.adds q); clear c1 c2 c3 c4; have c1 : W3.cell? ⟨w.heap.size, 1, none⟩ = some (.int .i64 (xa.toNat : Int)) := S3.out.box.cell 1; have c2 : W3.cell? ⟨w.heap.size, 2, none⟩ = some (.int .i64 (xb.toNat : Int)) := S3.out.box.cell 2; have c3 : W3.cell? ⟨w.heap.size, 3, none⟩ = some (.int .i64 (xc.toNat : Int)) := S3.out.box.cell 3; have c4 : W3.cell? ⟨w.heap.size, 4, none⟩ = some (.int .u32 (xi : Int)) := S3.out.box.cell 4; clear q HIb)
    | (at_builtin; refine wp_append_b8 rfl (.tmp 22) (.tmp 26) rfl (w.heap.size + 1) _ ([bo] ++ [xa]) rfl (by exact S3.out.own.adds (Gr.new _ _).adds) _ [xb] _ rfl (by exact (lit1 _ _ xb rfl).bytes) (by simp) (by exact (S3.out.adds (Gr.new _ _).adds).big) ?_; intro V4 W4 o g; have S4 := Lib.hid ((S3.out.adds (Gr.new _ _).adds).app o g); clear c1 c2 c3 c4; have c1 : W4.cell? ⟨w.heap.size, 1, none⟩ = some (.int .i64 (xa.toNat : Int)) := S4.out.box.cell 1; have c2 : W4.cell? ⟨w.heap.size, 2, none⟩ = some (.int .i64 (xb.toNat : Int)) := S4.out.box.cell 2; have c3 : W4.cell? ⟨w.heap.size, 3, none⟩ = some (.int .i64 (xc.toNat : Int)) := S4.out.box.cell 3; have c4 : W4.cell? ⟨w.heap.size, 4, none⟩ = some (.int .u32 (xi : Int)) := S4.out.box.cell 4; clear o g)
    | (go_at_call 67; refine (HIn.out _).mono ?_; rintro e W5 ⟨rfl, q⟩; have S5 := Lib.hid (S4.out.adds q); clear c1 c2 c3 c4; have c1 : W5.cell? ⟨w.heap.size, 1, none⟩ = some (.int .i64 (xa.toNat : Int)) := S5.out.box.cell 1; have c2 : W5.cell? ⟨w.heap.size, 2, none⟩ = some (.int .i64 (xb.toNat : Int)) := S5.out.box.cell 2; have c3 : W5.cell? ⟨w.heap.size, 3, none⟩ = some (.int .i64 (xc.toNat : Int)) := S5.out.box.cell 3; have c4 : W5.cell? ⟨w.heap.size, 4, none⟩ = some (.int .u32 (xi : Int)) := S5.out.box.cell 4; clear q HIn)
    | (at_builtin; refine wp_append_b8 rfl (.tmp 34) (.tmp 38) rfl (w.heap.size + 1) _ ([bo] ++ [xa] ++ [xb]) rfl (by exact S5.out.own.adds (Gr.new _ _).adds) _ [xc] _ rfl (by exact (lit1 _ _ xc rfl).bytes) (by simp) (by exact (S5.out.adds (Gr.new _ _).adds).big) ?_; intro V6 W6 o g; have S6 := Lib.hid ((S5.out.adds (Gr.new _ _).adds).app o g); clear c1 c2 c3 c4; have c1 : W6.cell? ⟨w.heap.size, 1, none⟩ = some (.int .i64 (xa.toNat : Int)) := S6.out.box.cell 1; have c2 : W6.cell? ⟨w.heap.size, 2, none⟩ = some (.int .i64 (xb.toNat : Int)) := S6.out.box.cell 2; have c3 : W6.cell? ⟨w.heap.size, 3, none⟩ = some (.int .i64 (xc.toNat : Int)) := S6.out.box.cell 3; have c4 : W6.cell? ⟨w.heap.size, 4, none⟩ = some (.int .u32 (xi : Int)) := S6.out.box.cell 4; clear o g)
    | (go_at_call 67; refine (HIi.out _).mono ?_; rintro e W7 ⟨rfl, q⟩; have S7 := Lib.hid (S6.out.adds q); clear c1 c2 c3 c4; have c1 : W7.cell? ⟨w.heap.size, 1, none⟩ = some (.int .i64 (xa.toNat : Int)) := S7.out.box.cell 1; have c2 : W7.cell? ⟨w.heap.size, 2, none⟩ = some (.int .i64 (xb.toNat : Int)) := S7.out.box.cell 2; have c3 : W7.cell? ⟨w.heap.size, 3, none⟩ = some (.int .i64 (xc.toNat : Int)) := S7.out.box.cell 3; have c4 : W7.cell? ⟨w.heap.size, 4, none⟩ = some (.int .u32 (xi : Int)) := S7.out.box.cell 4; clear q HIi)
    | (go_at_call 67; refine (HIf.out _).mono ?_; rintro e W8 ⟨rfl, q⟩; have S8 := Lib.hid (S7.out.adds q); clear c1 c2 c3 c4; have c1 : W8.cell? ⟨w.heap.size, 1, none⟩ = some (.int .i64 (xa.toNat : Int)) := S8.out.box.cell 1; have c2 : W8.cell? ⟨w.heap.size, 2, none⟩ = some (.int .i64 (xb.toNat : Int)) := S8.out.box.cell 2; have c3 : W8.cell? ⟨w.heap.size, 3, none⟩ = some (.int .i64 (xc.toNat : Int)) := S8.out.box.cell 3; have c4 : W8.cell? ⟨w.heap.size, 4, none⟩ = some (.int .u32 (xi : Int)) := S8.out.box.cell 4; clear q HIf)
    | (go_at_call 27; refine (HFx.out _).mono ?_; rintro e W9 ⟨vf, rfl, of, q⟩; have S9 := Lib.hid (S8.out.adds q); have OF := Lib.hid of.bytes; clear q of HFx)
    | (at_builtin; refine wp_append_b8 rfl (.tmp 57) (.tmp 58) rfl (w.heap.size + 1) _ ([bo] ++ [xa] ++ [xb] ++ [xc]) rfl (by exact S9.out.own) _ (fixB xi 4) _ rfl (by exact OF.out) (by have := fixB_short xi 4; simp; omega) (by exact S9.out.big) ?_; intro V10 W10 o g; have S10 := Lib.hid (S9.out.app o g); clear o g))
  go_ret
  exact ⟨_, rfl, by first | exact OwnB.lower S10.out.own (Nat.le_succ _) | simpa using OwnB.lower S10.out.own (Nat.le_succ _), S10.out.add⟩
set_option maxRecDepth 100000 in
set_option maxHeartbeats 4000000 in
theorem refBytes_a (op : Nat) (hI : InB op true false false false false false) (xa xb xc : UInt8) (xi : Nat) (hi : xi < 4294967296) (w : World) :
    Calls Tryz.prog 42 #[insV ((op : Int), (xa.toNat : Int), (xb.toNat : Int), (xc.toNat : Int), (xi : Int))] w (GivesB (refB op true false false false xa xb xc xi) (fun v => v) w) := by
  have hob : (op : Int) % 256 = (UInt8.ofNat op).toNat := by rw [UInt8.toNat_ofNat']; omega
  unfold refB
  obtain ⟨bo, hbo⟩ : ∃ bo, UInt8.ofNat op = bo := ⟨_, rfl⟩
  rw [hbo] at hob ⊢
  clear hbo
  have HIa := Lib.hid hI.a
  have HIb := Lib.hid hI.b
  have HIn := Lib.hid hI.n
  have HIi := Lib.hid hI.i
  have HIf := Lib.hid hI.f
  have HIk1 := Lib.hid hI.k
  have HIk2 := Lib.hid hI.k
  obtain ⟨w1, hw1⟩ : ∃ w1, w.alloc (.cells #[.int .i64 op, .int .i64 (xa.toNat : Int), .int .i64 (xb.toNat : Int), .int .i64 (xc.toNat : Int), .int .u32 xi] 59) = w1 := ⟨_, rfl⟩
  have HB1 := Lib.hid (show BkS 59 w1 w.heap.size (insC ((op : Int), (xa.toNat : Int), (xb.toNat : Int), (xc.toNat : Int), (xi : Int))) by rw [← hw1]; exact BkS.new _ _ _)
  have hz1 : w1.heap.size = w.heap.size + 1 := by rw [← hw1]; simp
  obtain ⟨w2, hw2⟩ : ∃ w2, w1.alloc (.cells #[.int .u8 (bo.toNat : Int)] 5) = w2 := ⟨_, rfl⟩
  have S0 := Lib.hid (show StB w ((op : Int), (xa.toNat : Int), (xb.toNat : Int), (xc.toNat : Int), (xi : Int)) w2 (.slice (some ⟨w1.heap.size, 0, none⟩) 1 1) [bo] by
    rw [← hw2]
    refine ⟨HB1.out.adds (Gr.new _ _).adds, ?_, ?_, ?_⟩
    · rw [← hz1]; exact lit1 w1 _ _ rfl
    · rw [← hw1]; exact ((Gr.new _ _).alloc _).adds
    · simp; omega)
  have hab := byte8 xa
  have hbb := byte8 xb
  have hcb := byte8 xc
  have hxi : (xi : Int) % 18446744073709551616 = xi := by omega
  have b0 : w1.cell? ⟨w.heap.size, 0, none⟩ = some (.int .i64 op) := HB1.out.cell 0
  have HFx := Lib.hid (fun W => refFixed_any xi (by unfold U64; omega) 4 W)
  clear hI hz1 hi
  have c1 : w2.cell? ⟨w.heap.size, 1, none⟩ = some (.int .i64 (xa.toNat : Int)) := S0.out.box.cell 1; have c2 : w2.cell? ⟨w.heap.size, 2, none⟩ = some (.int .i64 (xb.toNat : Int)) := S0.out.box.cell 2; have c3 : w2.cell? ⟨w.heap.size, 3, none⟩ = some (.int .i64 (xc.toNat : Int)) := S0.out.box.cell 3; have c4 : w2.cell? ⟨w.heap.size, 4, none⟩ = some (.int .u32 (xi : Int)) := S0.out.box.cell 4
  go_enter Tryz.func42, Tryz.ntmps42
  go_wp2_with (first
    | (go_at_call 67; refine (HIa.out _).mono ?_; rintro e W1 ⟨rfl, q⟩; have S1 := Lib.hid (S0.out.adds q); clear c1 c2 c3 c4; have c1 : W1.cell? ⟨w.heap.size, 1, none⟩ = some (.int .i64 (xa.toNat : Int)) := S1.out.box.cell 1; have c2 : W1.cell? ⟨w.heap.size, 2, none⟩ = some (.int .i64 (xb.toNat : Int)) := S1.out.box.cell 2; have c3 : W1.cell? ⟨w.heap.size, 3, none⟩ = some (.int .i64 (xc.toNat : Int)) := S1.out.box.cell 3; have c4 : W1.cell? ⟨w.heap.size, 4, none⟩ = some (.int .u32 (xi : Int)) := S1.out.box.cell 4; clear q HIa)
    | (at_builtin; refine wp_append_b8 rfl (.tmp 14) (.tmp 18) rfl (w.heap.size + 1) _ ([bo]) rfl (by exact S1.out.own.adds (Gr.new _ _).adds) _ [xa] _ rfl (by exact (lit1 _ _ xa rfl).bytes) (by simp) (by exact (S1.out.adds (Gr.new _ _).adds).big) ?_; intro V2 W2 o g; have S2 := Lib.hid ((S1.out.adds (Gr.new _ _).adds).app o g); clear c1 c2 c3 c4; have c1 : W2.cell? ⟨w.heap.size, 1, none⟩ = some (.int .i64 (xa.toNat : Int)) := S2.out.box.cell 1; have c2 : W2.cell? ⟨w.heap.size, 2, none⟩ = some (.int .i64 (xb.toNat : Int)) := S2.out.box.cell 2; have c3 : W2.cell? ⟨w.heap.size, 3, none⟩ = some (.int .i64 (xc.toNat : Int)) := S2.out.box.cell 3; have c4 : W2.cell? ⟨w.heap.size, 4, none⟩ = some (.int .u32 (xi : Int)) := S2.out.box.cell 4; clear o g)
    | (go_at_call 67; refine (HIb.out _).mono ?_; rintro e W3 ⟨rfl, q⟩; have S3 := Lib.hid (S2.out.adds q); clear c1 c2 c3 c4; have c1 : W3.cell? ⟨w.heap.size, 1, none⟩ = some (.int .i64 (xa.toNat : Int)) := S3.out.box.cell 1; have c2 : W3.cell? ⟨w.heap.size, 2, none⟩ = some (.int .i64 (xb.toNat : Int)) := S3.out.box.cell 2; have c3 : W3.cell? ⟨w.heap.size, 3, none⟩ = some (.int .i64 (xc.toNat : Int)) := S3.out.box.cell 3; have c4 : W3.cell? ⟨w.heap.size, 4, none⟩ = some (.int .u32 (xi : Int)) := S3.out.box.cell 4; clear q HIb)
    | (go_at_call 67; refine (HIn.out _).mono ?_; rintro e W4 ⟨rfl, q⟩; have S4 := Lib.hid (S3.out.adds q); clear c1 c2 c3 c4; have c1 : W4.cell? ⟨w.heap.size, 1, none⟩ = some (.int .i64 (xa.toNat : Int)) := S4.out.box.cell 1; have c2 : W4.cell? ⟨w.heap.size, 2, none⟩ = some (.int .i64 (xb.toNat : Int)) := S4.out.box.cell 2; have c3 : W4.cell? ⟨w.heap.size, 3, none⟩ = some (.int .i64 (xc.toNat : Int)) := S4.out.box.cell 3; have c4 : W4.cell? ⟨w.heap.size, 4, none⟩ = some (.int .u32 (xi : Int)) := S4.out.box.cell 4; clear q HIn)
    | (go_at_call 67; refine (HIk1.out _).mono ?_; rintro e W5 ⟨rfl, q⟩; have S5 := Lib.hid (S4.out.adds q); clear c1 c2 c3 c4; have c1 : W5.cell? ⟨w.heap.size, 1, none⟩ = some (.int .i64 (xa.toNat : Int)) := S5.out.box.cell 1; have c2 : W5.cell? ⟨w.heap.size, 2, none⟩ = some (.int .i64 (xb.toNat : Int)) := S5.out.box.cell 2; have c3 : W5.cell? ⟨w.heap.size, 3, none⟩ = some (.int .i64 (xc.toNat : Int)) := S5.out.box.cell 3; have c4 : W5.cell? ⟨w.heap.size, 4, none⟩ = some (.int .u32 (xi : Int)) := S5.out.box.cell 4; clear q HIk1)
    | (go_at_call 67; refine (HIi.out _).mono ?_; rintro e W6 ⟨rfl, q⟩; have S6 := Lib.hid (S5.out.adds q); clear c1 c2 c3 c4; have c1 : W6.cell? ⟨w.heap.size, 1, none⟩ = some (.int .i64 (xa.toNat : Int)) := S6.out.box.cell 1; have c2 : W6.cell? ⟨w.heap.size, 2, none⟩ = some (.int .i64 (xb.toNat : Int)) := S6.out.box.cell 2; have c3 : W6.cell? ⟨w.heap.size, 3, none⟩ = some (.int .i64 (xc.toNat : Int)) := S6.out.box.cell 3; have c4 : W6.cell? ⟨w.heap.size, 4, none⟩ = some (.int .u32 (xi : Int)) := S6.out.box.cell 4; clear q HIi)
    | (go_at_call 67; refine (HIf.out _).mono ?_; rintro e W7 ⟨rfl, q⟩; have S7 := Lib.hid (S6.out.adds q); clear c1 c2 c3 c4; have c1 : W7.cell? ⟨w.heap.size, 1, none⟩ = some (.int .i64 (xa.toNat : Int)) := S7.out.box.cell 1; have c2 : W7.cell? ⟨w.heap.size, 2, none⟩ = some (.int .i64 (xb.toNat : Int)) := S7.out.box.cell 2; have c3 : W7.cell? ⟨w.heap.size, 3, none⟩ = some (.int .i64 (xc.toNat : Int)) := S7.out.box.cell 3; have c4 : W7.cell? ⟨w.heap.size, 4, none⟩ = some (.int .u32 (xi : Int)) := S7.out.box.cell 4; clear q HIf)
    | (go_at_call 67; refine (HIk2.out _).mono ?_; rintro e W8 ⟨rfl, q⟩; have S8 := Lib.hid (S7.out.adds q); clear c1 c2 c3 c4; have c1 : W8.cell? ⟨w.heap.size, 1, none⟩ = some (.int .i64 (xa.toNat : Int)) := S8.out.box.cell 1; have c2 : W8.cell? ⟨w.heap.size, 2, none⟩ = some (.int .i64 (xb.toNat : Int)) := S8.out.box.cell 2; have c3 : W8.cell? ⟨w.heap.size, 3, none⟩ = some (.int .i64 (xc.toNat : Int)) := S8.out.box.cell 3; have c4 : W8.cell? ⟨w.heap.size, 4, none⟩ = some (.int .u32 (xi : Int)) := S8.out.box.cell 4; clear q HIk2))
  go_ret
  exact ⟨_, rfl, by first | exact OwnB.lower S8.out.own (Nat.le_succ _) | simpa using OwnB.lower S8.out.own (Nat.le_succ _), S8.out.add⟩
set_option maxRecDepth 100000 in
set_option maxHeartbeats 4000000 in
theorem refBytes_bnf (op : Nat) (hI : InB op false true true false false true) (xa xb xc : UInt8) (xi : Nat) (hi : xi < 4294967296) (w : World) :
    Calls Tryz.prog 42 #[insV ((op : Int), (xa.toNat : Int), (xb.toNat : Int), (xc.toNat : Int), (xi : Int))] w (GivesB (refB op false true true true xa xb xc xi) (fun v => v) w) := by
  have hob : (op : Int) % 256 = (UInt8.ofNat op).toNat := by rw [UInt8.toNat_ofNat']; omega
  unfold refB
  obtain ⟨bo, hbo⟩ : ∃ bo, UInt8.ofNat op = bo := ⟨_, rfl⟩
  rw [hbo] at hob ⊢
  clear hbo
  have HIa := Lib.hid hI.a
  have HIb := Lib.hid hI.b
  have HIn := Lib.hid hI.n
  have HIi := Lib.hid hI.i
  have HIf := Lib.hid hI.f
  obtain ⟨w1, hw1⟩ : ∃ w1, w.alloc (.cells #[.int .i64 op, .int .i64 (xa.toNat : Int), .int .i64 (xb.toNat : Int), .int .i64 (xc.toNat : Int), .int .u32 xi] 59) = w1 := ⟨_, rfl⟩
  have HB1 := Lib.hid (show BkS 59 w1 w.heap.size (insC ((op : Int), (xa.toNat : Int), (xb.toNat : Int), (xc.toNat : Int), (xi : Int))) by rw [← hw1]; exact BkS.new _ _ _)
  have hz1 : w1.heap.size = w.heap.size + 1 := by rw [← hw1]; simp
  obtain ⟨w2, hw2⟩ : ∃ w2, w1.alloc (.cells #[.int .u8 (bo.toNat : Int)] 5) = w2 := ⟨_, rfl⟩
  have S0 := Lib.hid (show StB w ((op : Int), (xa.toNat : Int), (xb.toNat : Int), (xc.toNat : Int), (xi : Int)) w2 (.slice (some ⟨w1.heap.size, 0, none⟩) 1 1) [bo] by
    rw [← hw2]
    refine ⟨HB1.out.adds (Gr.new _ _).adds, ?_, ?_, ?_⟩
    · rw [← hz1]; exact lit1 w1 _ _ rfl
    · rw [← hw1]; exact ((Gr.new _ _).alloc _).adds
    · simp; omega)
  have hab := byte8 xa
  have hbb := byte8 xb
  have hcb := byte8 xc
  have hxi : (xi : Int) % 18446744073709551616 = xi := by omega
  have b0 : w1.cell? ⟨w.heap.size, 0, none⟩ = some (.int .i64 op) := HB1.out.cell 0
  have HFx := Lib.hid (fun W => refFixed_any xi (by unfold U64; omega) 4 W)
  clear hI hz1 hi
  have c1 : w2.cell? ⟨w.heap.size, 1, none⟩ = some (.int .i64 (xa.toNat : Int)) := S0.out.box.cell 1; have c2 : w2.cell? ⟨w.heap.size, 2, none⟩ = some (.int .i64 (xb.toNat : Int)) := S0.out.box.cell 2; have c3 : w2.cell? ⟨w.heap.size, 3, none⟩ = some (.int .i64 (xc.toNat : Int)) := S0.out.box.cell 3; have c4 : w2.cell? ⟨w.heap.size, 4, none⟩ = some (.int .u32 (xi : Int)) := S0.out.box.cell 4
  go_enter Tryz.func42, Tryz.ntmps42
  go_wp2_with (first
    | (go_at_call 67; refine (HIa.out _).mono ?_; rintro e W1 ⟨rfl, q⟩; have S1 := Lib.hid (S0.out.adds q); clear c1 c2 c3 c4; have c1 : W1.cell? ⟨w.heap.size, 1, none⟩ = some (.int .i64 (xa.toNat : Int)) := S1.out.box.cell 1; have c2 : W1.cell? ⟨w.heap.size, 2, none⟩ = some (.int .i64 (xb.toNat : Int)) := S1.out.box.cell 2; have c3 : W1.cell? ⟨w.heap.size, 3, none⟩ = some (.int .i64 (xc.toNat : Int)) := S1.out.box.cell 3; have c4 : W1.cell? ⟨w.heap.size, 4, none⟩ = some (.int .u32 (xi : Int)) := S1.out.box.cell 4; clear q HIa)
    | (go_at_call 67; refine (HIb.out _).mono ?_; rintro e W2 ⟨rfl, q⟩; have S2 := Lib.hid (S1.out.adds q); clear c1 c2 c3 c4; have c1 : W2.cell? ⟨w.heap.size, 1, none⟩ = some (.int .i64 (xa.toNat : Int)) := S2.out.box.cell 1; have c2 : W2.cell? ⟨w.heap.size, 2, none⟩ = some (.int .i64 (xb.toNat : Int)) := S2.out.box.cell 2; have c3 : W2.cell? ⟨w.heap.size, 3, none⟩ = some (.int .i64 (xc.toNat : Int)) := S2.out.box.cell 3; have c4 : W2.cell? ⟨w.heap.size, 4, none⟩ = some (.int .u32 (xi : Int)) := S2.out.box.cell 4; clear q HIb)
    | (at_builtin; refine wp_append_b8 rfl (.tmp 22) (.tmp 26) rfl (w.heap.size + 1) _ ([bo]) rfl (by exact S2.out.own.adds (Gr.new _ _).adds) _ [xb] _ rfl (by exact (lit1 _ _ xb rfl).bytes) (by simp) (by exact (S2.out.adds (Gr.new _ _).adds).big) ?_; intro V3 W3 o g; have S3 := Lib.hid ((S2.out.adds (Gr.new _ _).adds).app o g); clear c1 c2 c3 c4; have c1 : W3.cell? ⟨w.heap.size, 1, none⟩ = some (.int .i64 (xa.toNat : Int)) := S3.out.box.cell 1; have c2 : W3.cell? ⟨w.heap.size, 2, none⟩ = some (.int .i64 (xb.toNat : Int)) := S3.out.box.cell 2; have c3 : W3.cell? ⟨w.heap.size, 3, none⟩ = some (.int .i64 (xc.toNat : Int)) := S3.out.box.cell 3; have c4 : W3.cell? ⟨w.heap.size, 4, none⟩ = some (.int .u32 (xi : Int)) := S3.out.box.cell 4; clear o g)
    | (go_at_call 67; refine (HIn.out _).mono ?_; rintro e W4 ⟨rfl, q⟩; have S4 := Lib.hid (S3.out.adds q); clear c1 c2 c3 c4; have c1 : W4.cell? ⟨w.heap.size, 1, none⟩ = some (.int .i64 (xa.toNat : Int)) := S4.out.box.cell 1; have c2 : W4.cell? ⟨w.heap.size, 2, none⟩ = some (.int .i64 (xb.toNat : Int)) := S4.out.box.cell 2; have c3 : W4.cell? ⟨w.heap.size, 3, none⟩ = some (.int .i64 (xc.toNat : Int)) := S4.out.box.cell 3; have c4 : W4.cell? ⟨w.heap.size, 4, none⟩ = some (.int .u32 (xi : Int)) := S4.out.box.cell 4; clear q HIn)
    | (at_builtin; refine wp_append_b8 rfl (.tmp 34) (.tmp 38) rfl (w.heap.size + 1) _ ([bo] ++ [xb]) rfl (by exact S4.out.own.adds (Gr.new _ _).adds) _ [xc] _ rfl (by exact (lit1 _ _ xc rfl).bytes) (by simp) (by exact (S4.out.adds (Gr.new _ _).adds).big) ?_; intro V5 W5 o g; have S5 := Lib.hid ((S4.out.adds (Gr.new _ _).adds).app o g); clear c1 c2 c3 c4; have c1 : W5.cell? ⟨w.heap.size, 1, none⟩ = some (.int .i64 (xa.toNat : Int)) := S5.out.box.cell 1; have c2 : W5.cell? ⟨w.heap.size, 2, none⟩ = some (.int .i64 (xb.toNat : Int)) := S5.out.box.cell 2; have c3 : W5.cell? ⟨w.heap.size, 3, none⟩ = some (.int .i64 (xc.toNat : Int)) := S5.out.box.cell 3; have c4 : W5.cell? ⟨w.heap.size, 4, none⟩ = some (.int .u32 (xi : Int)) := S5.out.box.cell 4; clear o g)
    | (go_at_call 67; refine (HIi.out _).mono ?_; rintro e W6 ⟨rfl, q⟩; have S6 := Lib.hid (S5.out.adds q); clear c1 c2 c3 c4; have c1 : W6.cell? ⟨w.heap.size, 1, none⟩ = some (.int .i64 (xa.toNat : Int)) := S6.out.box.cell 1; have c2 : W6.cell? ⟨w.heap.size, 2, none⟩ = some (.int .i64 (xb.toNat : Int)) := S6.out.box.cell 2; have c3 : W6.cell? ⟨w.heap.size, 3, none⟩ = some (.int .i64 (xc.toNat : Int)) := S6.out.box.cell 3; have c4 : W6.cell? ⟨w.heap.size, 4, none⟩ = some (.int .u32 (xi : Int)) := S6.out.box.cell 4; clear q HIi)
    | (go_at_call 67; refine (HIf.out _).mono ?_; rintro e W7 ⟨rfl, q⟩; have S7 := Lib.hid (S6.out.adds q); clear c1 c2 c3 c4; have c1 : W7.cell? ⟨w.heap.size, 1, none⟩ = some (.int .i64 (xa.toNat : Int)) := S7.out.box.cell 1; have c2 : W7.cell? ⟨w.heap.size, 2, none⟩ = some (.int .i64 (xb.toNat : Int)) := S7.out.box.cell 2; have c3 : W7.cell? ⟨w.heap.size, 3, none⟩ = some (.int .i64 (xc.toNat : Int)) := S7.out.box.cell 3; have c4 : W7.cell? ⟨w.heap.size, 4, none⟩ = some (.int .u32 (xi : Int)) := S7.out.box.cell 4; clear q HIf)
    | (go_at_call 27; refine (HFx.out _).mono ?_; rintro e W8 ⟨vf, rfl, of, q⟩; have S8 := Lib.hid (S7.out.adds q); have OF := Lib.hid of.bytes; clear q of HFx)
    | (at_builtin; refine wp_append_b8 rfl (.tmp 57) (.tmp 58) rfl (w.heap.size + 1) _ ([bo] ++ [xb] ++ [xc]) rfl (by exact S8.out.own) _ (fixB xi 4) _ rfl (by exact OF.out) (by have := fixB_short xi 4; simp; omega) (by exact S8.out.big) ?_; intro V9 W9 o g; have S9 := Lib.hid (S8.out.app o g); clear o g))
  go_ret
  exact ⟨_, rfl, by first | exact OwnB.lower S9.out.own (Nat.le_succ _) | simpa using OwnB.lower S9.out.own (Nat.le_succ _), S9.out.add⟩
set_option maxRecDepth 100000 in
set_option maxHeartbeats 4000000 in
theorem refBytes_none (op : Nat) (hI : InB op false false false false false false) (xa xb xc : UInt8) (xi : Nat) (hi : xi < 4294967296) (w : World) :
    Calls Tryz.prog 42 #[insV ((op : Int), (xa.toNat : Int), (xb.toNat : Int), (xc.toNat : Int), (xi : Int))] w (GivesB (refB op false false false false xa xb xc xi) (fun v => v) w) := by
  have hob : (op : Int) % 256 = (UInt8.ofNat op).toNat := by rw [UInt8.toNat_ofNat']; omega
  unfold refB
  obtain ⟨bo, hbo⟩ : ∃ bo, UInt8.ofNat op = bo := ⟨_, rfl⟩
  rw [hbo] at hob ⊢
  clear hbo
  have HIa := Lib.hid hI.a
  have HIb := Lib.hid hI.b
  have HIn := Lib.hid hI.n
  have HIi := Lib.hid hI.i
  have HIf := Lib.hid hI.f
  have HIk1 := Lib.hid hI.k
  have HIk2 := Lib.hid hI.k
  obtain ⟨w1, hw1⟩ : ∃ w1, w.alloc (.cells #[.int .i64 op, .int .i64 (xa.toNat : Int), .int .i64 (xb.toNat : Int), .int .i64 (xc.toNat : Int), .int .u32 xi] 59) = w1 := ⟨_, rfl⟩
  have HB1 := Lib.hid (show BkS 59 w1 w.heap.size (insC ((op : Int), (xa.toNat : Int), (xb.toNat : Int), (xc.toNat : Int), (xi : Int))) by rw [← hw1]; exact BkS.new _ _ _)
  have hz1 : w1.heap.size = w.heap.size + 1 := by rw [← hw1]; simp
  obtain ⟨w2, hw2⟩ : ∃ w2, w1.alloc (.cells #[.int .u8 (bo.toNat : Int)] 5) = w2 := ⟨_, rfl⟩
  have S0 := Lib.hid (show StB w ((op : Int), (xa.toNat : Int), (xb.toNat : Int), (xc.toNat : Int), (xi : Int)) w2 (.slice (some ⟨w1.heap.size, 0, none⟩) 1 1) [bo] by
    rw [← hw2]
    refine ⟨HB1.out.adds (Gr.new _ _).adds, ?_, ?_, ?_⟩
    · rw [← hz1]; exact lit1 w1 _ _ rfl
    · rw [← hw1]; exact ((Gr.new _ _).alloc _).adds
    · simp; omega)
  have hab := byte8 xa
  have hbb := byte8 xb
  have hcb := byte8 xc
  have hxi : (xi : Int) % 18446744073709551616 = xi := by omega
  have b0 : w1.cell? ⟨w.heap.size, 0, none⟩ = some (.int .i64 op) := HB1.out.cell 0
  have HFx := Lib.hid (fun W => refFixed_any xi (by unfold U64; omega) 4 W)
  clear hI hz1 hi
  have c1 : w2.cell? ⟨w.heap.size, 1, none⟩ = some (.int .i64 (xa.toNat : Int)) := S0.out.box.cell 1; have c2 : w2.cell? ⟨w.heap.size, 2, none⟩ = some (.int .i64 (xb.toNat : Int)) := S0.out.box.cell 2; have c3 : w2.cell? ⟨w.heap.size, 3, none⟩ = some (.int .i64 (xc.toNat : Int)) := S0.out.box.cell 3; have c4 : w2.cell? ⟨w.heap.size, 4, none⟩ = some (.int .u32 (xi : Int)) := S0.out.box.cell 4
  go_enter Tryz.func42, Tryz.ntmps42
  go_wp2_with (first
    | (go_at_call 67; refine (HIa.out _).mono ?_; rintro e W1 ⟨rfl, q⟩; have S1 := Lib.hid (S0.out.adds q); clear c1 c2 c3 c4; have c1 : W1.cell? ⟨w.heap.size, 1, none⟩ = some (.int .i64 (xa.toNat : Int)) := S1.out.box.cell 1; have c2 : W1.cell? ⟨w.heap.size, 2, none⟩ = some (.int .i64 (xb.toNat : Int)) := S1.out.box.cell 2; have c3 : W1.cell? ⟨w.heap.size, 3, none⟩ = some (.int .i64 (xc.toNat : Int)) := S1.out.box.cell 3; have c4 : W1.cell? ⟨w.heap.size, 4, none⟩ = some (.int .u32 (xi : Int)) := S1.out.box.cell 4; clear q HIa)
    | (go_at_call 67; refine (HIb.out _).mono ?_; rintro e W2 ⟨rfl, q⟩; have S2 := Lib.hid (S1.out.adds q); clear c1 c2 c3 c4; have c1 : W2.cell? ⟨w.heap.size, 1, none⟩ = some (.int .i64 (xa.toNat : Int)) := S2.out.box.cell 1; have c2 : W2.cell? ⟨w.heap.size, 2, none⟩ = some (.int .i64 (xb.toNat : Int)) := S2.out.box.cell 2; have c3 : W2.cell? ⟨w.heap.size, 3, none⟩ = some (.int .i64 (xc.toNat : Int)) := S2.out.box.cell 3; have c4 : W2.cell? ⟨w.heap.size, 4, none⟩ = some (.int .u32 (xi : Int)) := S2.out.box.cell 4; clear q HIb)
    | (go_at_call 67; refine (HIn.out _).mono ?_; rintro e W3 ⟨rfl, q⟩; have S3 := Lib.hid (S2.out.adds q); clear c1 c2 c3 c4; have c1 : W3.cell? ⟨w.heap.size, 1, none⟩ = some (.int .i64 (xa.toNat : Int)) := S3.out.box.cell 1; have c2 : W3.cell? ⟨w.heap.size, 2, none⟩ = some (.int .i64 (xb.toNat : Int)) := S3.out.box.cell 2; have c3 : W3.cell? ⟨w.heap.size, 3, none⟩ = some (.int .i64 (xc.toNat : Int)) := S3.out.box.cell 3; have c4 : W3.cell? ⟨w.heap.size, 4, none⟩ = some (.int .u32 (xi : Int)) := S3.out.box.cell 4; clear q HIn)
    | (go_at_call 67; refine (HIk1.out _).mono ?_; rintro e W4 ⟨rfl, q⟩; have S4 := Lib.hid (S3.out.adds q); clear c1 c2 c3 c4; have c1 : W4.cell? ⟨w.heap.size, 1, none⟩ = some (.int .i64 (xa.toNat : Int)) := S4.out.box.cell 1; have c2 : W4.cell? ⟨w.heap.size, 2, none⟩ = some (.int .i64 (xb.toNat : Int)) := S4.out.box.cell 2; have c3 : W4.cell? ⟨w.heap.size, 3, none⟩ = some (.int .i64 (xc.toNat : Int)) := S4.out.box.cell 3; have c4 : W4.cell? ⟨w.heap.size, 4, none⟩ = some (.int .u32 (xi : Int)) := S4.out.box.cell 4; clear q HIk1)
    | (go_at_call 67; refine (HIi.out _).mono ?_; rintro e W5 ⟨rfl, q⟩; have S5 := Lib.hid (S4.out.adds q); clear c1 c2 c3 c4; have c1 : W5.cell? ⟨w.heap.size, 1, none⟩ = some (.int .i64 (xa.toNat : Int)) := S5.out.box.cell 1; have c2 : W5.cell? ⟨w.heap.size, 2, none⟩ = some (.int .i64 (xb.toNat : Int)) := S5.out.box.cell 2; have c3 : W5.cell? ⟨w.heap.size, 3, none⟩ = some (.int .i64 (xc.toNat : Int)) := S5.out.box.cell 3; have c4 : W5.cell? ⟨w.heap.size, 4, none⟩ = some (.int .u32 (xi : Int)) := S5.out.box.cell 4; clear q HIi)
    | (go_at_call 67; refine (HIf.out _).mono ?_; rintro e W6 ⟨rfl, q⟩; have S6 := Lib.hid (S5.out.adds q); clear c1 c2 c3 c4; have c1 : W6.cell? ⟨w.heap.size, 1, none⟩ = some (.int .i64 (xa.toNat : Int)) := S6.out.box.cell 1; have c2 : W6.cell? ⟨w.heap.size, 2, none⟩ = some (.int .i64 (xb.toNat : Int)) := S6.out.box.cell 2; have c3 : W6.cell? ⟨w.heap.size, 3, none⟩ = some (.int .i64 (xc.toNat : Int)) := S6.out.box.cell 3; have c4 : W6.cell? ⟨w.heap.size, 4, none⟩ = some (.int .u32 (xi : Int)) := S6.out.box.cell 4; clear q HIf)
    | (go_at_call 67; refine (HIk2.out _).mono ?_; rintro e W7 ⟨rfl, q⟩; have S7 := Lib.hid (S6.out.adds q); clear c1 c2 c3 c4; have c1 : W7.cell? ⟨w.heap.size, 1, none⟩ = some (.int .i64 (xa.toNat : Int)) := S7.out.box.cell 1; have c2 : W7.cell? ⟨w.heap.size, 2, none⟩ = some (.int .i64 (xb.toNat : Int)) := S7.out.box.cell 2; have c3 : W7.cell? ⟨w.heap.size, 3, none⟩ = some (.int .i64 (xc.toNat : Int)) := S7.out.box.cell 3; have c4 : W7.cell? ⟨w.heap.size, 4, none⟩ = some (.int .u32 (xi : Int)) := S7.out.box.cell 4; clear q HIk2))
  go_ret
  exact ⟨_, rfl, by first | exact OwnB.lower S7.out.own (Nat.le_succ _) | simpa using OwnB.lower S7.out.own (Nat.le_succ _), S7.out.add⟩
def lettB (op : Nat) (c : UInt8) : Bool := (lettN op).contains c
/-- The bytes that the document tells of an instruction of this Op. -/
def refO (op : Nat) (xa xb xc : UInt8) (xi : Nat) : List UInt8 := refB op (lettB op 97) (lettB op 98) (lettB op 110 || lettB op 107) (lettB op 105 || lettB op 102 || lettB op 107) xa xb xc xi
theorem inB_any (op : Nat) (h1 : 1 ≤ op) (h2 : op ≤ 19) : InB op (lettB op 97) (lettB op 98) (lettB op 110) (lettB op 107) (lettB op 105) (lettB op 102) :=
  ⟨fun W => refIn_any op h1 h2 97 W, fun W => refIn_any op h1 h2 98 W, fun W => refIn_any op h1 h2 110 W, fun W => refIn_any op h1 h2 107 W, fun W => refIn_any op h1 h2 105 W, fun W => refIn_any op h1 h2 102 W⟩
theorem refBytesI_any (op : Nat) (h1 : 1 ≤ op) (h2 : op ≤ 19) (xa xb xc : UInt8) (xi : Nat) (hi : xi < 4294967296) (w : World) :
    Calls Tryz.prog 42 #[insV ((op : Int), (xa.toNat : Int), (xb.toNat : Int), (xc.toNat : Int), (xi : Int))] w (GivesB (refO op xa xb xc xi) (fun v => v) w) := by
  have hI := inB_any op h1 h2
  unfold refO
  match op, h1, h2 with
  | 1, _, _ => exact refBytes_ai 1 hI xa xb xc xi hi w
  | 2, _, _ => exact refBytes_ab 2 hI xa xb xc xi hi w
  | 3, _, _ => exact refBytes_abck 3 hI xa xb xc xi hi w
  | 4, _, _ => exact refBytes_i 4 hI xa xb xc xi hi w
  | 5, _, _ => exact refBytes_ai 5 hI xa xb xc xi hi w
  | 6, _, _ => exact refBytes_ab 6 hI xa xb xc xi hi w
  | 7, _, _ => exact refBytes_ab 7 hI xa xb xc xi hi w
  | 8, _, _ => exact refBytes_abnf 8 hI xa xb xc xi hi w
  | 9, _, _ => exact refBytes_a 9 hI xa xb xc xi hi w
  | 10, _, _ => exact refBytes_bnf 10 hI xa xb xc xi hi w
  | 11, _, _ => exact refBytes_a 11 hI xa xb xc xi hi w
  | 12, _, _ => exact refBytes_a 12 hI xa xb xc xi hi w
  | 13, _, _ => exact refBytes_a 13 hI xa xb xc xi hi w
  | 14, _, _ => exact refBytes_a 14 hI xa xb xc xi hi w
  | 15, _, _ => exact refBytes_a 15 hI xa xb xc xi hi w
  | 16, _, _ => exact refBytes_a 16 hI xa xb xc xi hi w
  | 17, _, _ => exact refBytes_ab 17 hI xa xb xc xi hi w
  | 18, _, _ => exact refBytes_a 18 hI xa xb xc xi hi w
  | 19, _, _ => exact refBytes_none 19 hI xa xb xc xi hi w
  | k + 20, _, h => exact absurd h (by omega)
theorem fix_one (b : UInt8) : fixB b.toNat 1 = [b] := by
  have h : fixE b.toNat 1 = 0 := by
    unfold fixE
    rw [if_pos (by decide), if_pos (by have := b.toNat_lt; show _ < 256 ^ 1; omega)]
  unfold fixB
  rw [if_pos h]
  show [UInt8.ofNat _] = _
  simp
/-- Where each number fits its width these are the program's. -/
theorem refO_bytes (op : Nat) (h1 : 1 ≤ op) (h2 : op ≤ 19) (xa xb xc : UInt8) (xi : Nat) : refO op xa xb xc xi = bytesI ((op : Int), (xa.toNat : Int), (xb.toNat : Int), (xc.toNat : Int), (xi : Int)) := by
  have ha := fix_one xa
  have hb := fix_one xb
  have hc := fix_one xc
  unfold bytesI
  match op, h1, h2 with
  | 1, _, _ | 2, _, _ | 3, _, _ | 4, _, _ | 5, _, _ | 6, _, _ | 7, _, _ | 8, _, _ | 9, _, _ | 10, _, _ | 11, _, _ | 12, _, _ | 13, _, _ | 14, _, _ | 15, _, _ | 16, _, _ | 17, _, _ | 18, _, _ | 19, _, _ =>
    simp [refO, refB, lettB, lettN, partsN, bytesP, getP, widN, ha, hb, hc]
  | k + 20, _, h => exact absurd h (by omega)
end Go.Proofs.YthhegcngkpfcoaaGreatDoor
