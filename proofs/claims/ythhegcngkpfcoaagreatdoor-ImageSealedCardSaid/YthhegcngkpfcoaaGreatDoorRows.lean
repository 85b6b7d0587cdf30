/-
  NARROWER THAN 'FOR EVERY INPUT', by the rows' own cells (each row's printed sentence says how): ImageEncodes: laid · ImageSealed: laid · ImageEach: laid.
  DERIVED. THE GIVEN ROWS OF THIS SEAT. 3 by the template 'for every input the law returns true; each argument reads behind the call as it read before'; 0 by the template 'total and deterministic' (their statements: YthhegcngkpfcoaaGreatDoorTotals.lean).
  GIVEN WITH THE SEED: the statements are not yours to turn. If you find one false, say at which input.
  Laid BY PROGRAM, IN A SANDBOX (cutbox-rows.mjs): the forced cells as the released guide's own fill.sh prints them over the translation dff1aeb32c2ddc86… (all of the seat's roots in one cut). By AI agents, Wed Nov 11 2026. No macro, syntax, notation, axiom, sorry.
-/
import Derived.Test.YthhegcngkpfcoaaGreatDoorChecked
import GoSem.Claim
import GoSem.ClaimJoined
import GoSem.ClaimMapViews
import Derived.JoinedTies
import Derived.KernelRfl
namespace Go.Proofs.YthhegcngkpfcoaaGreatDoor
/- THE CELL 'sum', in the pinned program and in every row, IS THE sha256 OF THE DUMP (.gsa) THAT YthhegcngkpfcoaaGreatDoorProg.lean LOADS. Nothing in Lean hashes anything: it is a label: what it is worth is what the hold of that sum in a sandbox is worth. -/
noncomputable def Tryz.pinned : Pinned := { name := "ythhegcngkpfcoaagreatdoor", sum := "dff1aeb32c2ddc86cdf47af92955fd5f391719c241c2f937df2104a63695a8e8", checked := Tryz.checked }
namespace Rows
def none {H : Type} : Left H := { results := [], args := [] }

/- WHAT THE LISTED PACKAGE-LEVEL VARIABLES READ AS WHEN THE CALL BEGINS. Each datum BY PROGRAM (the guide's laid-datum.mjs) off the statement by which the dump's own 'gosem.cut.vars' lays the variable. In a bare row this is a premise. The card (YthhegcngkpfcoaaGreatDoorCards.lean) ties it to the program's text. -/
def laid_linesman_octet_widths {H : Type} : DataW H := .agg [.lit (.int .i64 1), .lit (.int .i64 2), .lit (.int .i64 4), .lit (.int .i64 8)]
def laid_linesman_image_beginning {H : Type} : DataW H := .agg [.lit (.int .u8 108), .lit (.int .u8 105), .lit (.int .u8 110), .lit (.int .u8 101)]

/-- 'linesmanlaw10.ImageEncodes': WHATEVER THE INPUT: true; the input reads as it did. -/
def imageEncodesSpec : ChangeSpec := { name := "imageEncodes", fn := fun _ => fun
  | [d] => { results := [.lit (.bool true)], args := [d] }
  | _ => none }
def imageEncodesRow : OpenClaim := { program := "ythhegcngkpfcoaagreatdoor", sum := "dff1aeb32c2ddc86cdf47af92955fd5f391719c241c2f937df2104a63695a8e8", func := "linesman/linesmanlaw10.ImageEncodes", spec := "imageEncodes", unfollowed := true, recurses := true, named := ["linesman/image.beginning", "linesman/octet.widths"], apart := false, laid := [("linesman/octet.widths", laid_linesman_octet_widths), ("linesman/image.beginning", laid_linesman_image_beginning)] }
def ImageEncodesSaid : Prop := imageEncodesRow.holds Tryz.pinned (OpenSpec.ofChange imageEncodesSpec)

/-- ITS FALSE NEIGHBOUR: 'it returns false'. Refute it at one input. -/
def imageEncodesWrong : ChangeSpec := { name := "imageEncodes", fn := fun _ => fun
  | [d] => { results := [.lit (.bool false)], args := [d] }
  | _ => none }
def ImageEncodesWrongFalsely : Prop := imageEncodesRow.holds Tryz.pinned (OpenSpec.ofChange imageEncodesWrong)

/-- 'linesmanlaw10.ImageSealed': WHATEVER THE INPUT: true; the input reads as it did. -/
def imageSealedSpec : ChangeSpec := { name := "imageSealed", fn := fun _ => fun
  | [d1, d2] => { results := [.lit (.bool true)], args := [d1, d2] }
  | _ => none }
def imageSealedRow : OpenClaim := { program := "ythhegcngkpfcoaagreatdoor", sum := "dff1aeb32c2ddc86cdf47af92955fd5f391719c241c2f937df2104a63695a8e8", func := "linesman/linesmanlaw10.ImageSealed", spec := "imageSealed", unfollowed := true, recurses := true, named := ["linesman/image.beginning", "linesman/octet.widths"], apart := false, laid := [("linesman/octet.widths", laid_linesman_octet_widths), ("linesman/image.beginning", laid_linesman_image_beginning)] }
def ImageSealedSaid : Prop := imageSealedRow.holds Tryz.pinned (OpenSpec.ofChange imageSealedSpec)

/-- ITS FALSE NEIGHBOUR: 'it returns false'. Refute it at one input. -/
def imageSealedWrong : ChangeSpec := { name := "imageSealed", fn := fun _ => fun
  | [d1, d2] => { results := [.lit (.bool false)], args := [d1, d2] }
  | _ => none }
def ImageSealedWrongFalsely : Prop := imageSealedRow.holds Tryz.pinned (OpenSpec.ofChange imageSealedWrong)

/-- 'linesmanlaw10.ImageEach': WHATEVER THE INPUT: true; the input reads as it did. -/
def imageEachSpec : ChangeSpec := { name := "imageEach", fn := fun _ => fun
  | [d1, d2, d3] => { results := [.lit (.bool true)], args := [d1, d2, d3] }
  | _ => none }
def imageEachRow : OpenClaim := { program := "ythhegcngkpfcoaagreatdoor", sum := "dff1aeb32c2ddc86cdf47af92955fd5f391719c241c2f937df2104a63695a8e8", func := "linesman/linesmanlaw10.ImageEach", spec := "imageEach", unfollowed := true, recurses := true, named := ["linesman/image.beginning", "linesman/octet.widths"], apart := false, laid := [("linesman/octet.widths", laid_linesman_octet_widths), ("linesman/image.beginning", laid_linesman_image_beginning)] }
def ImageEachSaid : Prop := imageEachRow.holds Tryz.pinned (OpenSpec.ofChange imageEachSpec)

/-- ITS FALSE NEIGHBOUR: 'it returns false'. Refute it at one input. -/
def imageEachWrong : ChangeSpec := { name := "imageEach", fn := fun _ => fun
  | [d1, d2, d3] => { results := [.lit (.bool false)], args := [d1, d2, d3] }
  | _ => none }
def ImageEachWrongFalsely : Prop := imageEachRow.holds Tryz.pinned (OpenSpec.ofChange imageEachWrong)

/- THE SECOND FORM. 'bulk': how many values and letters a reading holds, each counted each time it is reached (what is shared counts as often as it is met; a slice's spare places count too). A statement '..UptoSaid' is the law's where the arguments, and the package variables that the reading takes, are together of bulk at most 1048576: NARROWER than '..Said'. Prove '..Said' where nothing that the law and all that it calls make is longer than what came in: it says more and counts as full. Else prove '..UptoSaid'. A law counts once. -/
mutual
def uptoBulk {H : Type} : DataW H → Nat
  | .lit (.string bytes) => bytes.length + 1
  | .lit _ => 1
  | .nil => 1
  | .ptr d => uptoBulk d + 1
  | .slice elems spare => uptoBulkAll elems + uptoBulkAll spare + 1
  | .agg parts => uptoBulkAll parts + 1
  | .iface _ d => uptoBulk d + 1
  | .map entries => uptoBulkEntries entries + 1
  | .held _ => 1
def uptoBulkAll {H : Type} : List (DataW H) → Nat
  | [] => 0
  | d :: r => uptoBulk d + uptoBulkAll r
def uptoBulkEntries {H : Type} : List (Lit × DataW H) → Nat
  | [] => 0
  | x :: r => uptoBulkEntry x + uptoBulkEntries r
def uptoBulkEntry {H : Type} : Lit × DataW H → Nat
  | (.string bytes, d) => bytes.length + uptoBulk d + 1
  | (_, d) => uptoBulk d + 1
 end
def uptoSmall : (H : Type) → List (DataW H) → Bool := fun _ ds => decide (uptoBulkAll ds ≤ 1048576)
def OpenSpec.upto (s : _root_.Go.ChangeSpec) : _root_.Go.OpenSpec := { _root_.Go.OpenSpec.ofChange s with cond := some uptoSmall }

/-- 'linesmanlaw10.ImageEncodes', WHERE WHAT IT READS IS OF BULK AT MOST 1048576: true; the input reads as it did. -/
def imageEncodesUptoRow : OpenClaim := { program := "ythhegcngkpfcoaagreatdoor", sum := "dff1aeb32c2ddc86cdf47af92955fd5f391719c241c2f937df2104a63695a8e8", func := "linesman/linesmanlaw10.ImageEncodes", spec := "imageEncodes", unfollowed := true, recurses := true, named := ["linesman/image.beginning", "linesman/octet.widths"], apart := false, laid := [("linesman/octet.widths", laid_linesman_octet_widths), ("linesman/image.beginning", laid_linesman_image_beginning)], narrowed := true }
def ImageEncodesUptoSaid : Prop := imageEncodesUptoRow.holds Tryz.pinned (OpenSpec.upto imageEncodesSpec)

/-- 'linesmanlaw10.ImageSealed', WHERE WHAT IT READS IS OF BULK AT MOST 1048576: true; the input reads as it did. -/
def imageSealedUptoRow : OpenClaim := { program := "ythhegcngkpfcoaagreatdoor", sum := "dff1aeb32c2ddc86cdf47af92955fd5f391719c241c2f937df2104a63695a8e8", func := "linesman/linesmanlaw10.ImageSealed", spec := "imageSealed", unfollowed := true, recurses := true, named := ["linesman/image.beginning", "linesman/octet.widths"], apart := false, laid := [("linesman/octet.widths", laid_linesman_octet_widths), ("linesman/image.beginning", laid_linesman_image_beginning)], narrowed := true }
def ImageSealedUptoSaid : Prop := imageSealedUptoRow.holds Tryz.pinned (OpenSpec.upto imageSealedSpec)

/-- 'linesmanlaw10.ImageEach', WHERE WHAT IT READS IS OF BULK AT MOST 1048576: true; the input reads as it did. -/
def imageEachUptoRow : OpenClaim := { program := "ythhegcngkpfcoaagreatdoor", sum := "dff1aeb32c2ddc86cdf47af92955fd5f391719c241c2f937df2104a63695a8e8", func := "linesman/linesmanlaw10.ImageEach", spec := "imageEach", unfollowed := true, recurses := true, named := ["linesman/image.beginning", "linesman/octet.widths"], apart := false, laid := [("linesman/octet.widths", laid_linesman_octet_widths), ("linesman/image.beginning", laid_linesman_image_beginning)], narrowed := true }
def ImageEachUptoSaid : Prop := imageEachUptoRow.holds Tryz.pinned (OpenSpec.upto imageEachSpec)

end Rows
end Go.Proofs.YthhegcngkpfcoaaGreatDoor
