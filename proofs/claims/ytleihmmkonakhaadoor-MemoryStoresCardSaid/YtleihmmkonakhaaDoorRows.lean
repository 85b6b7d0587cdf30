/-
  NARROWER THAN 'FOR EVERY INPUT', by the rows' own cells (each row's printed sentence says how): MemoryStores: laid · MemoryFrom: laid · MemoryCopies: laid · MemoryNone: laid · MemoryHolds: laid.
  DERIVED. THE GIVEN ROWS OF THIS SEAT. 5 by the template 'for every input the law returns true; each argument reads behind the call as it read before'; 0 by the template 'total and deterministic' (their statements: YtleihmmkonakhaaDoorTotals.lean).
  GIVEN WITH THE SEED: the statements are not yours to turn. If you find one false, say at which input.
  Laid BY PROGRAM, IN A SANDBOX (cutbox-rows.mjs): the forced cells as the released guide's own fill.sh prints them over the translation 23cf79338d1b0109… (all of the seat's roots in one cut). By AI agents, Wed Nov 11 2026. No macro, syntax, notation, axiom, sorry.
-/
import Derived.Test.YtleihmmkonakhaaDoorChecked
import GoSem.Claim
import GoSem.ClaimJoined
import GoSem.ClaimMapViews
import Derived.JoinedTies
import Derived.KernelRfl
namespace Go.Proofs.YtleihmmkonakhaaDoor
/- THE CELL 'sum', in the pinned program and in every row, IS THE sha256 OF THE DUMP (.gsa) THAT YtleihmmkonakhaaDoorProg.lean LOADS. Nothing in Lean hashes anything: it is a label: what it is worth is what the hold of that sum in a sandbox is worth. -/
noncomputable def Tryd.pinned : Pinned := { name := "ytleihmmkonakhaadoor", sum := "23cf79338d1b0109a1118d2b9aebc8400bb24eed649282f1a01116d100d2d42d", checked := Tryd.checked }
namespace Rows
def none {H : Type} : Left H := { results := [], args := [] }

/- WHAT THE LISTED PACKAGE-LEVEL VARIABLES READ AS WHEN THE CALL BEGINS. Each datum BY PROGRAM (the guide's laid-datum.mjs) off the statement by which the dump's own 'gosem.cut.vars' lays the variable. In a bare row this is a premise. The card (YtleihmmkonakhaaDoorCards.lean) ties it to the program's text. -/
def laid_linesman_octet_widths {H : Type} : DataW H := .agg [.lit (.int .i64 1), .lit (.int .i64 2), .lit (.int .i64 4), .lit (.int .i64 8)]

/-- 'linesmanlaw06.MemoryStores': WHATEVER THE INPUT: true; the input reads as it did. -/
def memoryStoresSpec : ChangeSpec := { name := "memoryStores", fn := fun _ => fun
  | [d] => { results := [.lit (.bool true)], args := [d] }
  | _ => none }
def memoryStoresRow : OpenClaim := { program := "ytleihmmkonakhaadoor", sum := "23cf79338d1b0109a1118d2b9aebc8400bb24eed649282f1a01116d100d2d42d", func := "linesman/linesmanlaw06.MemoryStores", spec := "memoryStores", unfollowed := true, recurses := true, named := ["linesman/octet.widths"], apart := false, laid := [("linesman/octet.widths", laid_linesman_octet_widths)] }
def MemoryStoresSaid : Prop := memoryStoresRow.holds Tryd.pinned (OpenSpec.ofChange memoryStoresSpec)

/-- ITS FALSE NEIGHBOUR: 'it returns false'. Refute it at one input. -/
def memoryStoresWrong : ChangeSpec := { name := "memoryStores", fn := fun _ => fun
  | [d] => { results := [.lit (.bool false)], args := [d] }
  | _ => none }
def MemoryStoresWrongFalsely : Prop := memoryStoresRow.holds Tryd.pinned (OpenSpec.ofChange memoryStoresWrong)

/-- 'linesmanlaw06.MemoryFrom': WHATEVER THE INPUT: true; the input reads as it did. -/
def memoryFromSpec : ChangeSpec := { name := "memoryFrom", fn := fun _ => fun
  | [d1, d2, d3] => { results := [.lit (.bool true)], args := [d1, d2, d3] }
  | _ => none }
def memoryFromRow : OpenClaim := { program := "ytleihmmkonakhaadoor", sum := "23cf79338d1b0109a1118d2b9aebc8400bb24eed649282f1a01116d100d2d42d", func := "linesman/linesmanlaw06.MemoryFrom", spec := "memoryFrom", unfollowed := true, recurses := true, named := ["linesman/octet.widths"], apart := false, laid := [("linesman/octet.widths", laid_linesman_octet_widths)] }
def MemoryFromSaid : Prop := memoryFromRow.holds Tryd.pinned (OpenSpec.ofChange memoryFromSpec)

/-- ITS FALSE NEIGHBOUR: 'it returns false'. Refute it at one input. -/
def memoryFromWrong : ChangeSpec := { name := "memoryFrom", fn := fun _ => fun
  | [d1, d2, d3] => { results := [.lit (.bool false)], args := [d1, d2, d3] }
  | _ => none }
def MemoryFromWrongFalsely : Prop := memoryFromRow.holds Tryd.pinned (OpenSpec.ofChange memoryFromWrong)

/-- 'linesmanlaw06.MemoryCopies': WHATEVER THE INPUT: true; the input reads as it did. -/
def memoryCopiesSpec : ChangeSpec := { name := "memoryCopies", fn := fun _ => fun
  | [d1, d2, d3] => { results := [.lit (.bool true)], args := [d1, d2, d3] }
  | _ => none }
def memoryCopiesRow : OpenClaim := { program := "ytleihmmkonakhaadoor", sum := "23cf79338d1b0109a1118d2b9aebc8400bb24eed649282f1a01116d100d2d42d", func := "linesman/linesmanlaw06.MemoryCopies", spec := "memoryCopies", unfollowed := true, recurses := true, named := ["linesman/octet.widths"], apart := false, laid := [("linesman/octet.widths", laid_linesman_octet_widths)] }
def MemoryCopiesSaid : Prop := memoryCopiesRow.holds Tryd.pinned (OpenSpec.ofChange memoryCopiesSpec)

/-- ITS FALSE NEIGHBOUR: 'it returns false'. Refute it at one input. -/
def memoryCopiesWrong : ChangeSpec := { name := "memoryCopies", fn := fun _ => fun
  | [d1, d2, d3] => { results := [.lit (.bool false)], args := [d1, d2, d3] }
  | _ => none }
def MemoryCopiesWrongFalsely : Prop := memoryCopiesRow.holds Tryd.pinned (OpenSpec.ofChange memoryCopiesWrong)

/-- 'linesmanlaw06.MemoryNone': WHATEVER THE INPUT: true; the input reads as it did. -/
def memoryNoneSpec : ChangeSpec := { name := "memoryNone", fn := fun _ => fun
  | [d1, d2] => { results := [.lit (.bool true)], args := [d1, d2] }
  | _ => none }
def memoryNoneRow : OpenClaim := { program := "ytleihmmkonakhaadoor", sum := "23cf79338d1b0109a1118d2b9aebc8400bb24eed649282f1a01116d100d2d42d", func := "linesman/linesmanlaw06.MemoryNone", spec := "memoryNone", unfollowed := true, recurses := true, named := ["linesman/octet.widths"], apart := false, laid := [("linesman/octet.widths", laid_linesman_octet_widths)] }
def MemoryNoneSaid : Prop := memoryNoneRow.holds Tryd.pinned (OpenSpec.ofChange memoryNoneSpec)

/-- ITS FALSE NEIGHBOUR: 'it returns false'. Refute it at one input. -/
def memoryNoneWrong : ChangeSpec := { name := "memoryNone", fn := fun _ => fun
  | [d1, d2] => { results := [.lit (.bool false)], args := [d1, d2] }
  | _ => none }
def MemoryNoneWrongFalsely : Prop := memoryNoneRow.holds Tryd.pinned (OpenSpec.ofChange memoryNoneWrong)

/-- 'linesmanlaw06.MemoryHolds': WHATEVER THE INPUT: true; the input reads as it did. -/
def memoryHoldsSpec : ChangeSpec := { name := "memoryHolds", fn := fun _ => fun
  | [d] => { results := [.lit (.bool true)], args := [d] }
  | _ => none }
def memoryHoldsRow : OpenClaim := { program := "ytleihmmkonakhaadoor", sum := "23cf79338d1b0109a1118d2b9aebc8400bb24eed649282f1a01116d100d2d42d", func := "linesman/linesmanlaw06.MemoryHolds", spec := "memoryHolds", unfollowed := true, recurses := true, named := ["linesman/octet.widths"], apart := false, laid := [("linesman/octet.widths", laid_linesman_octet_widths)] }
def MemoryHoldsSaid : Prop := memoryHoldsRow.holds Tryd.pinned (OpenSpec.ofChange memoryHoldsSpec)

/-- ITS FALSE NEIGHBOUR: 'it returns false'. Refute it at one input. -/
def memoryHoldsWrong : ChangeSpec := { name := "memoryHolds", fn := fun _ => fun
  | [d] => { results := [.lit (.bool false)], args := [d] }
  | _ => none }
def MemoryHoldsWrongFalsely : Prop := memoryHoldsRow.holds Tryd.pinned (OpenSpec.ofChange memoryHoldsWrong)

/- THE SECOND FORM. 'bulk': how many values and letters a reading holds, each counted each time it is reached (what is shared counts as often as it is met; a slice's spare places count too). A statement '..UptoSaid' is the law's where the arguments, and the package variables that the reading takes, are together of bulk at most 1048576: NARROWER than '..Said'. Prove '..Said' where nothing that the law and all that it calls make is longer than what came in: it says more and counts as full. Else prove '..UptoSaid'. A law counts once. -/
mutual
def uptoBulk {H : Type} : DataW H → Nat
  | .lit (.string bytes) => bytes.length + 1
  | .lit _ => 1
  | .nil => 1
  | .ptr d => uptoBulk d + 1
  | .slice elems spare => uptoBulkAll elems + uptoBulkAll spare + 1
  | .agg parts => uptoBulkAll parts + 1
  | .iface _ d => uptoBulk d + 1
  | .map entries => uptoBulkEntries entries + 1
  | .held _ => 1
def uptoBulkAll {H : Type} : List (DataW H) → Nat
  | [] => 0
  | d :: r => uptoBulk d + uptoBulkAll r
def uptoBulkEntries {H : Type} : List (Lit × DataW H) → Nat
  | [] => 0
  | x :: r => uptoBulkEntry x + uptoBulkEntries r
def uptoBulkEntry {H : Type} : Lit × DataW H → Nat
  | (.string bytes, d) => bytes.length + uptoBulk d + 1
  | (_, d) => uptoBulk d + 1
 end
def uptoSmall : (H : Type) → List (DataW H) → Bool := fun _ ds => decide (uptoBulkAll ds ≤ 1048576)
def OpenSpec.upto (s : _root_.Go.ChangeSpec) : _root_.Go.OpenSpec := { _root_.Go.OpenSpec.ofChange s with cond := some uptoSmall }

/-- 'linesmanlaw06.MemoryStores', WHERE WHAT IT READS IS OF BULK AT MOST 1048576: true; the input reads as it did. -/
def memoryStoresUptoRow : OpenClaim := { program := "ytleihmmkonakhaadoor", sum := "23cf79338d1b0109a1118d2b9aebc8400bb24eed649282f1a01116d100d2d42d", func := "linesman/linesmanlaw06.MemoryStores", spec := "memoryStores", unfollowed := true, recurses := true, named := ["linesman/octet.widths"], apart := false, laid := [("linesman/octet.widths", laid_linesman_octet_widths)], narrowed := true }
def MemoryStoresUptoSaid : Prop := memoryStoresUptoRow.holds Tryd.pinned (OpenSpec.upto memoryStoresSpec)

/-- 'linesmanlaw06.MemoryFrom', WHERE WHAT IT READS IS OF BULK AT MOST 1048576: true; the input reads as it did. -/
def memoryFromUptoRow : OpenClaim := { program := "ytleihmmkonakhaadoor", sum := "23cf79338d1b0109a1118d2b9aebc8400bb24eed649282f1a01116d100d2d42d", func := "linesman/linesmanlaw06.MemoryFrom", spec := "memoryFrom", unfollowed := true, recurses := true, named := ["linesman/octet.widths"], apart := false, laid := [("linesman/octet.widths", laid_linesman_octet_widths)], narrowed := true }
def MemoryFromUptoSaid : Prop := memoryFromUptoRow.holds Tryd.pinned (OpenSpec.upto memoryFromSpec)

/-- 'linesmanlaw06.MemoryCopies', WHERE WHAT IT READS IS OF BULK AT MOST 1048576: true; the input reads as it did. -/
def memoryCopiesUptoRow : OpenClaim := { program := "ytleihmmkonakhaadoor", sum := "23cf79338d1b0109a1118d2b9aebc8400bb24eed649282f1a01116d100d2d42d", func := "linesman/linesmanlaw06.MemoryCopies", spec := "memoryCopies", unfollowed := true, recurses := true, named := ["linesman/octet.widths"], apart := false, laid := [("linesman/octet.widths", laid_linesman_octet_widths)], narrowed := true }
def MemoryCopiesUptoSaid : Prop := memoryCopiesUptoRow.holds Tryd.pinned (OpenSpec.upto memoryCopiesSpec)

/-- 'linesmanlaw06.MemoryNone', WHERE WHAT IT READS IS OF BULK AT MOST 1048576: true; the input reads as it did. -/
def memoryNoneUptoRow : OpenClaim := { program := "ytleihmmkonakhaadoor", sum := "23cf79338d1b0109a1118d2b9aebc8400bb24eed649282f1a01116d100d2d42d", func := "linesman/linesmanlaw06.MemoryNone", spec := "memoryNone", unfollowed := true, recurses := true, named := ["linesman/octet.widths"], apart := false, laid := [("linesman/octet.widths", laid_linesman_octet_widths)], narrowed := true }
def MemoryNoneUptoSaid : Prop := memoryNoneUptoRow.holds Tryd.pinned (OpenSpec.upto memoryNoneSpec)

/-- 'linesmanlaw06.MemoryHolds', WHERE WHAT IT READS IS OF BULK AT MOST 1048576: true; the input reads as it did. -/
def memoryHoldsUptoRow : OpenClaim := { program := "ytleihmmkonakhaadoor", sum := "23cf79338d1b0109a1118d2b9aebc8400bb24eed649282f1a01116d100d2d42d", func := "linesman/linesmanlaw06.MemoryHolds", spec := "memoryHolds", unfollowed := true, recurses := true, named := ["linesman/octet.widths"], apart := false, laid := [("linesman/octet.widths", laid_linesman_octet_widths)], narrowed := true }
def MemoryHoldsUptoSaid : Prop := memoryHoldsUptoRow.holds Tryd.pinned (OpenSpec.upto memoryHoldsSpec)

end Rows
end Go.Proofs.YtleihmmkonakhaaDoor
