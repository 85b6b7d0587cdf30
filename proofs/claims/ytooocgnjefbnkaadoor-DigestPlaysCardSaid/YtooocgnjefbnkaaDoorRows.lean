/-
  NARROWER THAN 'FOR EVERY INPUT', by the rows' own cells (each row's printed sentence says how): DigestPlays: laid · ArithNames: laid · ArithKinds: laid.
  DERIVED. THE GIVEN ROWS OF THIS SEAT. 3 by the template 'for every input the law returns true; each argument reads behind the call as it read before'; 0 by the template 'total and deterministic' (their statements: YtooocgnjefbnkaaDoorTotals.lean).
  GIVEN WITH THE SEED: the statements are not yours to turn. If you find one false, say at which input.
  Laid BY PROGRAM, IN A SANDBOX (cutbox-rows.mjs): the forced cells as the released guide's own fill.sh prints them over the translation bab94886e307eee2… (all of the seat's roots in one cut). By AI agents, Wed Nov 11 2026. No macro, syntax, notation, axiom, sorry.
-/
import Derived.Test.YtooocgnjefbnkaaDoorChecked
import GoSem.Claim
import GoSem.ClaimJoined
import GoSem.ClaimMapViews
import Derived.JoinedTies
import Derived.KernelRfl
namespace Go.Proofs.YtooocgnjefbnkaaDoor
/- THE CELL 'sum', in the pinned program and in every row, IS THE sha256 OF THE DUMP (.gsa) THAT YtooocgnjefbnkaaDoorProg.lean LOADS. Nothing in Lean hashes anything: it is a label: what it is worth is what the hold of that sum in a sandbox is worth. -/
noncomputable def Tryd.pinned : Pinned := { name := "ytooocgnjefbnkaadoor", sum := "bab94886e307eee2329133b85e3d23426c9043b40b9757d1f3edbb76dd2cec37", checked := Tryd.checked }
namespace Rows
def none {H : Type} : Left H := { results := [], args := [] }

/- WHAT THE LISTED PACKAGE-LEVEL VARIABLES READ AS WHEN THE CALL BEGINS. Each datum BY PROGRAM (the guide's laid-datum.mjs) off the statement by which the dump's own 'gosem.cut.vars' lays the variable. In a bare row this is a premise. The card (YtooocgnjefbnkaaDoorCards.lean) ties it to the program's text. -/
def laid_linesman_octet_widths {H : Type} : DataW H := .agg [.lit (.int .i64 1), .lit (.int .i64 2), .lit (.int .i64 4), .lit (.int .i64 8)]
def laid_linesman_arith_names {H : Type} : DataW H := .agg [.lit (.string [97, 100, 100]), .lit (.string [115, 117, 98]), .lit (.string [109, 117, 108]), .lit (.string [100, 105, 118]), .lit (.string [109, 111, 100]), .lit (.string [97, 110, 100]), .lit (.string [111, 114]), .lit (.string [120, 111, 114]), .lit (.string [115, 104, 108]), .lit (.string [115, 104, 114]), .lit (.string [108, 101, 115, 115]), .lit (.string [101, 113, 117, 97, 108])]

/-- 'linesmanlaw02.DigestPlays': WHATEVER THE INPUT: true; the input reads as it did. -/
def digestPlaysSpec : ChangeSpec := { name := "digestPlays", fn := fun _ => fun
  | [d] => { results := [.lit (.bool true)], args := [d] }
  | _ => none }
def digestPlaysRow : OpenClaim := { program := "ytooocgnjefbnkaadoor", sum := "bab94886e307eee2329133b85e3d23426c9043b40b9757d1f3edbb76dd2cec37", func := "linesman/linesmanlaw02.DigestPlays", spec := "digestPlays", unfollowed := true, recurses := true, named := ["linesman/octet.widths"], apart := false, laid := [("linesman/octet.widths", laid_linesman_octet_widths)] }
def DigestPlaysSaid : Prop := digestPlaysRow.holds Tryd.pinned (OpenSpec.ofChange digestPlaysSpec)

/-- ITS FALSE NEIGHBOUR: 'it returns false'. Refute it at one input. -/
def digestPlaysWrong : ChangeSpec := { name := "digestPlays", fn := fun _ => fun
  | [d] => { results := [.lit (.bool false)], args := [d] }
  | _ => none }
def DigestPlaysWrongFalsely : Prop := digestPlaysRow.holds Tryd.pinned (OpenSpec.ofChange digestPlaysWrong)

/-- 'linesmanlaw05.ArithNames': WHATEVER THE INPUT: true; the input reads as it did. -/
def arithNamesSpec : ChangeSpec := { name := "arithNames", fn := fun _ => fun
  | [d1, d2] => { results := [.lit (.bool true)], args := [d1, d2] }
  | _ => none }
def arithNamesRow : OpenClaim := { program := "ytooocgnjefbnkaadoor", sum := "bab94886e307eee2329133b85e3d23426c9043b40b9757d1f3edbb76dd2cec37", func := "linesman/linesmanlaw05.ArithNames", spec := "arithNames", unfollowed := true, recurses := true, named := ["linesman/arith.names"], apart := false, laid := [("linesman/arith.names", laid_linesman_arith_names)] }
def ArithNamesSaid : Prop := arithNamesRow.holds Tryd.pinned (OpenSpec.ofChange arithNamesSpec)

/-- ITS FALSE NEIGHBOUR: 'it returns false'. Refute it at one input. -/
def arithNamesWrong : ChangeSpec := { name := "arithNames", fn := fun _ => fun
  | [d1, d2] => { results := [.lit (.bool false)], args := [d1, d2] }
  | _ => none }
def ArithNamesWrongFalsely : Prop := arithNamesRow.holds Tryd.pinned (OpenSpec.ofChange arithNamesWrong)

/-- 'linesmanlaw05.ArithKinds': WHATEVER THE INPUT: true; the input reads as it did. -/
def arithKindsSpec : ChangeSpec := { name := "arithKinds", fn := fun _ => fun
  | [d] => { results := [.lit (.bool true)], args := [d] }
  | _ => none }
def arithKindsRow : OpenClaim := { program := "ytooocgnjefbnkaadoor", sum := "bab94886e307eee2329133b85e3d23426c9043b40b9757d1f3edbb76dd2cec37", func := "linesman/linesmanlaw05.ArithKinds", spec := "arithKinds", unfollowed := true, recurses := true, named := ["linesman/arith.names"], apart := false, laid := [("linesman/arith.names", laid_linesman_arith_names)] }
def ArithKindsSaid : Prop := arithKindsRow.holds Tryd.pinned (OpenSpec.ofChange arithKindsSpec)

/-- ITS FALSE NEIGHBOUR: 'it returns false'. Refute it at one input. -/
def arithKindsWrong : ChangeSpec := { name := "arithKinds", fn := fun _ => fun
  | [d] => { results := [.lit (.bool false)], args := [d] }
  | _ => none }
def ArithKindsWrongFalsely : Prop := arithKindsRow.holds Tryd.pinned (OpenSpec.ofChange arithKindsWrong)

/- THE SECOND FORM. 'bulk': how many values and letters a reading holds, each counted each time it is reached (what is shared counts as often as it is met; a slice's spare places count too). A statement '..UptoSaid' is the law's where the arguments, and the package variables that the reading takes, are together of bulk at most 1048576: NARROWER than '..Said'. Prove '..Said' where nothing that the law and all that it calls make is longer than what came in: it says more and counts as full. Else prove '..UptoSaid'. A law counts once. -/
mutual
def uptoBulk {H : Type} : DataW H → Nat
  | .lit (.string bytes) => bytes.length + 1
  | .lit _ => 1
  | .nil => 1
  | .ptr d => uptoBulk d + 1
  | .slice elems spare => uptoBulkAll elems + uptoBulkAll spare + 1
  | .agg parts => uptoBulkAll parts + 1
  | .iface _ d => uptoBulk d + 1
  | .map entries => uptoBulkEntries entries + 1
  | .held _ => 1
def uptoBulkAll {H : Type} : List (DataW H) → Nat
  | [] => 0
  | d :: r => uptoBulk d + uptoBulkAll r
def uptoBulkEntries {H : Type} : List (Lit × DataW H) → Nat
  | [] => 0
  | x :: r => uptoBulkEntry x + uptoBulkEntries r
def uptoBulkEntry {H : Type} : Lit × DataW H → Nat
  | (.string bytes, d) => bytes.length + uptoBulk d + 1
  | (_, d) => uptoBulk d + 1
 end
def uptoSmall : (H : Type) → List (DataW H) → Bool := fun _ ds => decide (uptoBulkAll ds ≤ 1048576)
def OpenSpec.upto (s : _root_.Go.ChangeSpec) : _root_.Go.OpenSpec := { _root_.Go.OpenSpec.ofChange s with cond := some uptoSmall }

/-- 'linesmanlaw02.DigestPlays', WHERE WHAT IT READS IS OF BULK AT MOST 1048576: true; the input reads as it did. -/
def digestPlaysUptoRow : OpenClaim := { program := "ytooocgnjefbnkaadoor", sum := "bab94886e307eee2329133b85e3d23426c9043b40b9757d1f3edbb76dd2cec37", func := "linesman/linesmanlaw02.DigestPlays", spec := "digestPlays", unfollowed := true, recurses := true, named := ["linesman/octet.widths"], apart := false, laid := [("linesman/octet.widths", laid_linesman_octet_widths)], narrowed := true }
def DigestPlaysUptoSaid : Prop := digestPlaysUptoRow.holds Tryd.pinned (OpenSpec.upto digestPlaysSpec)

/-- 'linesmanlaw05.ArithNames', WHERE WHAT IT READS IS OF BULK AT MOST 1048576: true; the input reads as it did. -/
def arithNamesUptoRow : OpenClaim := { program := "ytooocgnjefbnkaadoor", sum := "bab94886e307eee2329133b85e3d23426c9043b40b9757d1f3edbb76dd2cec37", func := "linesman/linesmanlaw05.ArithNames", spec := "arithNames", unfollowed := true, recurses := true, named := ["linesman/arith.names"], apart := false, laid := [("linesman/arith.names", laid_linesman_arith_names)], narrowed := true }
def ArithNamesUptoSaid : Prop := arithNamesUptoRow.holds Tryd.pinned (OpenSpec.upto arithNamesSpec)

/-- 'linesmanlaw05.ArithKinds', WHERE WHAT IT READS IS OF BULK AT MOST 1048576: true; the input reads as it did. -/
def arithKindsUptoRow : OpenClaim := { program := "ytooocgnjefbnkaadoor", sum := "bab94886e307eee2329133b85e3d23426c9043b40b9757d1f3edbb76dd2cec37", func := "linesman/linesmanlaw05.ArithKinds", spec := "arithKinds", unfollowed := true, recurses := true, named := ["linesman/arith.names"], apart := false, laid := [("linesman/arith.names", laid_linesman_arith_names)], narrowed := true }
def ArithKindsUptoSaid : Prop := arithKindsUptoRow.holds Tryd.pinned (OpenSpec.upto arithKindsSpec)

end Rows
end Go.Proofs.YtooocgnjefbnkaaDoor
