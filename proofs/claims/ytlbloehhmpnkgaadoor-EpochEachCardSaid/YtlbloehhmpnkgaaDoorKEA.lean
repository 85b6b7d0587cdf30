/- The law EpochEach: how it stands ahead of a turn. -/
import Derived.Sort.LoopGhostIn
import Derived.Test.YtlbloehhmpnkgaaDoorKE2
import Derived.Test.YtlbloehhmpnkgaaDoorMarks
import Derived.Test.YtlbloehhmpnkgaaDoorKWorks
namespace Go.Proofs.YtlbloehhmpnkgaaDoor
open Go Go.RowKit Go.Shelf

theorem seq3_not_nil (fn : Fn) (a b : Array Value) (W : World) : (binOp .eql 65 (.func fn a b) .nilFunc).run Tryd.prog W = .ok (.bool false) W := by kernel_rfl
theorem cnt_lt (e m : Nat) (he : e < 18446744073709551616) : cntE e m ≤ 281474976710656 ∧ ∀ x, x < cntE e m → e + x < 18446744073709551616 := by
  unfold cntE eC
  split
  · exact ⟨by omega, fun x hx => by omega⟩
  · exact ⟨by omega, fun x hx => by omega⟩
theorem keepC_set3 (W : World) (b : Nat) (u : Value) : KeepC (fun k => k = b) W (W.setCell ⟨b, 0, none⟩ u) := fun k _ _ _ hk hc => (Below.heap_setCell W _ u k hk).trans hc
theorem turn_end3 {B0 C : Nat} {w1 W2 : World} {D : Nat} {ds : List Deferred} {a : Array Value} (hb : Below B0 w1 W2) (h1 : B0 ≤ D) {E : Nat} (hD : E ≤ D) (hK : W2.heap[D]? = some (.deferred (some []))) (hm : Marks B0 C W2 ds) (hC : C ≤ E) :
    Below B0 w1 W2 ∧ D < W2.heap.size ∧ Marks B0 W2.heap.size W2 ({ target := .collected D, args := a } :: ds) :=
  ⟨hb, (Array.getElem?_eq_some_iff.1 hK).1, D, rfl, h1, (Array.getElem?_eq_some_iff.1 hK).1, hK, hm.up (by omega)⟩
theorem marks_set3 {B C b : Nat} {W : World} {ds : List Deferred} (h : Marks B C W ds) (hb : b < B) (u : Value) : Marks B C (W.setCell ⟨b, 0, none⟩ u) ds := by
  induction ds generalizing C with
  | nil => trivial
  | cons d ds ih =>
    obtain ⟨D, h1, h2, h3, h4, h5⟩ := h
    exact ⟨D, h1, h2, h3, (Below.heap_setCell W _ u D (by show D ≠ b; omega)).trans h4, ih h5⟩

/-- How the law stands ahead of turn t. -/
def EachTurn (n0 nq Bk : Nat) (w1 : World) (g : Nat) (a : Act) (W : World) : Prop :=
  ∃ (t Bt : Nat) (ds : List Deferred) (u0 u1 u2 u4 u7 u8 u9 u13 u14 u15 u16 u17 u18 u19 u20 u21 u22 u23 u24 u25 u26 u27 u28 u29 u30 u31 u32 u33 u34 u35 u36 u37 u38 u39 u40 u41 u42 u43 u44 u45 u46 u47 u48 u49 u50 u51 u52 u53 u54 u55 u56 u57 u58 u59 u60 u61 u62 u63 u64 u65 u66 u67 u68 u69 u70 u71 u72 u73 u74 u75 u76 u77 u78 u79 u80 u81 u82 u83 u84 u85 u86 u87 u88 u89 u90 u91 u92 u93 u94 u95 u96 u97 u98 u99 u100 u101 u102 u103 : Value), t + g = 2 ∧
    a = { tmps := #[u0, u1, u2, Value.pointer (some { block := n0, off := 0 }), u4, Value.pointer (some { block := n0 + 1, off := 0 }), Value.pointer (some { block := n0 + 1 + 1, off := 0 }), u7, u8, u9, Value.pointer (some { block := nq, off := 0 }), Value.func (Fn.func 65) #[] #[Value.pointer (some { block := Bk, off := 0 })], Value.pointer (some { block := Bt, off := 0 }), u13, u14, u15, u16, u17, u18, u19, u20, u21, u22, u23, u24, u25, u26, u27, u28, u29, u30, u31, u32, u33, u34, u35, u36, u37, u38, u39, u40, u41, u42, u43, u44, u45, u46, u47, u48, u49, u50, u51, u52, u53, u54, u55, u56, u57, u58, u59, u60, u61, u62, u63, u64, u65, u66, u67, u68, u69, u70, u71, u72, u73, u74, u75, u76, u77, u78, u79, u80, u81, u82, u83, u84, u85, u86, u87, u88, u89, u90, u91, u92, u93, u94, u95, u96, u97, u98, u99, u100, u101, u102, u103], defers := ds } ∧
    Below w1.heap.size w1 W ∧ w1.heap.size ≤ Bt ∧ Boxed W Bt 3 (.int .i64 (t : Nat)) ∧ Marks w1.heap.size W.heap.size W ds
end Go.Proofs.YtlbloehhmpnkgaaDoor
