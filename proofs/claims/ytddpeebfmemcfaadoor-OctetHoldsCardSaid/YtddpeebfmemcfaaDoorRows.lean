/-
  NARROWER THAN 'FOR EVERY INPUT', by the rows' own cells (each row's printed sentence says how): OctetFixed: laid · OctetNumbers: laid · OctetTexts: laid · OctetEach: laid · OctetHolds: laid.
  DERIVED. THE GIVEN ROWS OF THIS SEAT. 5 by the template 'for every input the law returns true; each argument reads behind the call as it read before'; 0 by the template 'total and deterministic' (their statements: YtddpeebfmemcfaaDoorTotals.lean).
  GIVEN WITH THE SEED: the statements are not yours to turn. If you find one false, say at which input.
  Laid BY PROGRAM, IN A SANDBOX (cutbox-rows.mjs): the forced cells as the released guide's own fill.sh prints them over the translation bfee9cf324a8a0ff… (all of the seat's roots in one cut). By AI agents, Wed Nov 11 2026. No macro, syntax, notation, axiom, sorry.
-/
import Derived.Test.YtddpeebfmemcfaaDoorChecked
import GoSem.Claim
import GoSem.ClaimJoined
import GoSem.ClaimMapViews
import Derived.JoinedTies
import Derived.KernelRfl
namespace Go.Proofs.YtddpeebfmemcfaaDoor
/- THE CELL 'sum', in the pinned program and in every row, IS THE sha256 OF THE DUMP (.gsa) THAT YtddpeebfmemcfaaDoorProg.lean LOADS. Nothing in Lean hashes anything: it is a label: what it is worth is what the hold of that sum in a sandbox is worth. -/
noncomputable def Tryd.pinned : Pinned := { name := "ytddpeebfmemcfaadoor", sum := "bfee9cf324a8a0ffc43d469abdc9975d0c203126b5f1b76751f2174b23dc0ef5", checked := Tryd.checked }
namespace Rows
def none {H : Type} : Left H := { results := [], args := [] }

/- WHAT THE LISTED PACKAGE-LEVEL VARIABLES READ AS WHEN THE CALL BEGINS. Each datum BY PROGRAM (the guide's laid-datum.mjs) off the statement by which the dump's own 'gosem.cut.vars' lays the variable. In a bare row this is a premise. The card (YtddpeebfmemcfaaDoorCards.lean) ties it to the program's text. -/
def laid_linesman_octet_widths {H : Type} : DataW H := .agg [.lit (.int .i64 1), .lit (.int .i64 2), .lit (.int .i64 4), .lit (.int .i64 8)]

/-- 'linesmanlaw01.OctetFixed': WHATEVER THE INPUT: true; the input reads as it did. -/
def octetFixedSpec : ChangeSpec := { name := "octetFixed", fn := fun _ => fun
  | [d1, d2, d3] => { results := [.lit (.bool true)], args := [d1, d2, d3] }
  | _ => none }
def octetFixedRow : OpenClaim := { program := "ytddpeebfmemcfaadoor", sum := "bfee9cf324a8a0ffc43d469abdc9975d0c203126b5f1b76751f2174b23dc0ef5", func := "linesman/linesmanlaw01.OctetFixed", spec := "octetFixed", unfollowed := true, recurses := true, named := ["linesman/octet.widths"], apart := false, laid := [("linesman/octet.widths", laid_linesman_octet_widths)] }
def OctetFixedSaid : Prop := octetFixedRow.holds Tryd.pinned (OpenSpec.ofChange octetFixedSpec)

/-- ITS FALSE NEIGHBOUR: 'it returns false'. Refute it at one input. -/
def octetFixedWrong : ChangeSpec := { name := "octetFixed", fn := fun _ => fun
  | [d1, d2, d3] => { results := [.lit (.bool false)], args := [d1, d2, d3] }
  | _ => none }
def OctetFixedWrongFalsely : Prop := octetFixedRow.holds Tryd.pinned (OpenSpec.ofChange octetFixedWrong)

/-- 'linesmanlaw01.OctetNumbers': WHATEVER THE INPUT: true; the input reads as it did. -/
def octetNumbersSpec : ChangeSpec := { name := "octetNumbers", fn := fun _ => fun
  | [d1, d2] => { results := [.lit (.bool true)], args := [d1, d2] }
  | _ => none }
def octetNumbersRow : OpenClaim := { program := "ytddpeebfmemcfaadoor", sum := "bfee9cf324a8a0ffc43d469abdc9975d0c203126b5f1b76751f2174b23dc0ef5", func := "linesman/linesmanlaw01.OctetNumbers", spec := "octetNumbers", unfollowed := true, recurses := true, named := ["linesman/octet.widths"], apart := false, laid := [("linesman/octet.widths", laid_linesman_octet_widths)] }
def OctetNumbersSaid : Prop := octetNumbersRow.holds Tryd.pinned (OpenSpec.ofChange octetNumbersSpec)

/-- ITS FALSE NEIGHBOUR: 'it returns false'. Refute it at one input. -/
def octetNumbersWrong : ChangeSpec := { name := "octetNumbers", fn := fun _ => fun
  | [d1, d2] => { results := [.lit (.bool false)], args := [d1, d2] }
  | _ => none }
def OctetNumbersWrongFalsely : Prop := octetNumbersRow.holds Tryd.pinned (OpenSpec.ofChange octetNumbersWrong)

/-- 'linesmanlaw01.OctetTexts': WHATEVER THE INPUT: true; the input reads as it did. -/
def octetTextsSpec : ChangeSpec := { name := "octetTexts", fn := fun _ => fun
  | [d1, d2] => { results := [.lit (.bool true)], args := [d1, d2] }
  | _ => none }
def octetTextsRow : OpenClaim := { program := "ytddpeebfmemcfaadoor", sum := "bfee9cf324a8a0ffc43d469abdc9975d0c203126b5f1b76751f2174b23dc0ef5", func := "linesman/linesmanlaw01.OctetTexts", spec := "octetTexts", unfollowed := true, recurses := true, named := ["linesman/octet.widths"], apart := false, laid := [("linesman/octet.widths", laid_linesman_octet_widths)] }
def OctetTextsSaid : Prop := octetTextsRow.holds Tryd.pinned (OpenSpec.ofChange octetTextsSpec)

/-- ITS FALSE NEIGHBOUR: 'it returns false'. Refute it at one input. -/
def octetTextsWrong : ChangeSpec := { name := "octetTexts", fn := fun _ => fun
  | [d1, d2] => { results := [.lit (.bool false)], args := [d1, d2] }
  | _ => none }
def OctetTextsWrongFalsely : Prop := octetTextsRow.holds Tryd.pinned (OpenSpec.ofChange octetTextsWrong)

/-- 'linesmanlaw01.OctetEach': WHATEVER THE INPUT: true; the input reads as it did. -/
def octetEachSpec : ChangeSpec := { name := "octetEach", fn := fun _ => fun
  | [d1, d2, d3] => { results := [.lit (.bool true)], args := [d1, d2, d3] }
  | _ => none }
def octetEachRow : OpenClaim := { program := "ytddpeebfmemcfaadoor", sum := "bfee9cf324a8a0ffc43d469abdc9975d0c203126b5f1b76751f2174b23dc0ef5", func := "linesman/linesmanlaw01.OctetEach", spec := "octetEach", unfollowed := true, recurses := true, named := ["linesman/octet.widths"], apart := false, laid := [("linesman/octet.widths", laid_linesman_octet_widths)] }
def OctetEachSaid : Prop := octetEachRow.holds Tryd.pinned (OpenSpec.ofChange octetEachSpec)

/-- ITS FALSE NEIGHBOUR: 'it returns false'. Refute it at one input. -/
def octetEachWrong : ChangeSpec := { name := "octetEach", fn := fun _ => fun
  | [d1, d2, d3] => { results := [.lit (.bool false)], args := [d1, d2, d3] }
  | _ => none }
def OctetEachWrongFalsely : Prop := octetEachRow.holds Tryd.pinned (OpenSpec.ofChange octetEachWrong)

/-- 'linesmanlaw01.OctetHolds': WHATEVER THE INPUT: true; the input reads as it did. -/
def octetHoldsSpec : ChangeSpec := { name := "octetHolds", fn := fun _ => fun
  | [d1, d2, d3] => { results := [.lit (.bool true)], args := [d1, d2, d3] }
  | _ => none }
def octetHoldsRow : OpenClaim := { program := "ytddpeebfmemcfaadoor", sum := "bfee9cf324a8a0ffc43d469abdc9975d0c203126b5f1b76751f2174b23dc0ef5", func := "linesman/linesmanlaw01.OctetHolds", spec := "octetHolds", unfollowed := true, recurses := true, named := ["linesman/octet.widths"], apart := false, laid := [("linesman/octet.widths", laid_linesman_octet_widths)] }
def OctetHoldsSaid : Prop := octetHoldsRow.holds Tryd.pinned (OpenSpec.ofChange octetHoldsSpec)

/-- ITS FALSE NEIGHBOUR: 'it returns false'. Refute it at one input. -/
def octetHoldsWrong : ChangeSpec := { name := "octetHolds", fn := fun _ => fun
  | [d1, d2, d3] => { results := [.lit (.bool false)], args := [d1, d2, d3] }
  | _ => none }
def OctetHoldsWrongFalsely : Prop := octetHoldsRow.holds Tryd.pinned (OpenSpec.ofChange octetHoldsWrong)

/- THE SECOND FORM. 'bulk': how many values and letters a reading holds, each counted each time it is reached (what is shared counts as often as it is met; a slice's spare places count too). A statement '..UptoSaid' is the law's where the arguments, and the package variables that the reading takes, are together of bulk at most 1048576: NARROWER than '..Said'. Prove '..Said' where nothing that the law and all that it calls make is longer than what came in: it says more and counts as full. Else prove '..UptoSaid'. A law counts once. -/
mutual
def uptoBulk {H : Type} : DataW H → Nat
  | .lit (.string bytes) => bytes.length + 1
  | .lit _ => 1
  | .nil => 1
  | .ptr d => uptoBulk d + 1
  | .slice elems spare => uptoBulkAll elems + uptoBulkAll spare + 1
  | .agg parts => uptoBulkAll parts + 1
  | .iface _ d => uptoBulk d + 1
  | .map entries => uptoBulkEntries entries + 1
  | .held _ => 1
def uptoBulkAll {H : Type} : List (DataW H) → Nat
  | [] => 0
  | d :: r => uptoBulk d + uptoBulkAll r
def uptoBulkEntries {H : Type} : List (Lit × DataW H) → Nat
  | [] => 0
  | x :: r => uptoBulkEntry x + uptoBulkEntries r
def uptoBulkEntry {H : Type} : Lit × DataW H → Nat
  | (.string bytes, d) => bytes.length + uptoBulk d + 1
  | (_, d) => uptoBulk d + 1
 end
def uptoSmall : (H : Type) → List (DataW H) → Bool := fun _ ds => decide (uptoBulkAll ds ≤ 1048576)
def OpenSpec.upto (s : _root_.Go.ChangeSpec) : _root_.Go.OpenSpec := { _root_.Go.OpenSpec.ofChange s with cond := some uptoSmall }

/-- 'linesmanlaw01.OctetFixed', WHERE WHAT IT READS IS OF BULK AT MOST 1048576: true; the input reads as it did. -/
def octetFixedUptoRow : OpenClaim := { program := "ytddpeebfmemcfaadoor", sum := "bfee9cf324a8a0ffc43d469abdc9975d0c203126b5f1b76751f2174b23dc0ef5", func := "linesman/linesmanlaw01.OctetFixed", spec := "octetFixed", unfollowed := true, recurses := true, named := ["linesman/octet.widths"], apart := false, laid := [("linesman/octet.widths", laid_linesman_octet_widths)], narrowed := true }
def OctetFixedUptoSaid : Prop := octetFixedUptoRow.holds Tryd.pinned (OpenSpec.upto octetFixedSpec)

/-- 'linesmanlaw01.OctetNumbers', WHERE WHAT IT READS IS OF BULK AT MOST 1048576: true; the input reads as it did. -/
def octetNumbersUptoRow : OpenClaim := { program := "ytddpeebfmemcfaadoor", sum := "bfee9cf324a8a0ffc43d469abdc9975d0c203126b5f1b76751f2174b23dc0ef5", func := "linesman/linesmanlaw01.OctetNumbers", spec := "octetNumbers", unfollowed := true, recurses := true, named := ["linesman/octet.widths"], apart := false, laid := [("linesman/octet.widths", laid_linesman_octet_widths)], narrowed := true }
def OctetNumbersUptoSaid : Prop := octetNumbersUptoRow.holds Tryd.pinned (OpenSpec.upto octetNumbersSpec)

/-- 'linesmanlaw01.OctetTexts', WHERE WHAT IT READS IS OF BULK AT MOST 1048576: true; the input reads as it did. -/
def octetTextsUptoRow : OpenClaim := { program := "ytddpeebfmemcfaadoor", sum := "bfee9cf324a8a0ffc43d469abdc9975d0c203126b5f1b76751f2174b23dc0ef5", func := "linesman/linesmanlaw01.OctetTexts", spec := "octetTexts", unfollowed := true, recurses := true, named := ["linesman/octet.widths"], apart := false, laid := [("linesman/octet.widths", laid_linesman_octet_widths)], narrowed := true }
def OctetTextsUptoSaid : Prop := octetTextsUptoRow.holds Tryd.pinned (OpenSpec.upto octetTextsSpec)

/-- 'linesmanlaw01.OctetEach', WHERE WHAT IT READS IS OF BULK AT MOST 1048576: true; the input reads as it did. -/
def octetEachUptoRow : OpenClaim := { program := "ytddpeebfmemcfaadoor", sum := "bfee9cf324a8a0ffc43d469abdc9975d0c203126b5f1b76751f2174b23dc0ef5", func := "linesman/linesmanlaw01.OctetEach", spec := "octetEach", unfollowed := true, recurses := true, named := ["linesman/octet.widths"], apart := false, laid := [("linesman/octet.widths", laid_linesman_octet_widths)], narrowed := true }
def OctetEachUptoSaid : Prop := octetEachUptoRow.holds Tryd.pinned (OpenSpec.upto octetEachSpec)

/-- 'linesmanlaw01.OctetHolds', WHERE WHAT IT READS IS OF BULK AT MOST 1048576: true; the input reads as it did. -/
def octetHoldsUptoRow : OpenClaim := { program := "ytddpeebfmemcfaadoor", sum := "bfee9cf324a8a0ffc43d469abdc9975d0c203126b5f1b76751f2174b23dc0ef5", func := "linesman/linesmanlaw01.OctetHolds", spec := "octetHolds", unfollowed := true, recurses := true, named := ["linesman/octet.widths"], apart := false, laid := [("linesman/octet.widths", laid_linesman_octet_widths)], narrowed := true }
def OctetHoldsUptoSaid : Prop := octetHoldsUptoRow.holds Tryd.pinned (OpenSpec.upto octetHoldsSpec)

end Rows
end Go.Proofs.YtddpeebfmemcfaaDoor
