/-
  NARROWER THAN 'FOR EVERY INPUT', by the rows' own cells (each row's printed sentence says how): OctetEach: laid · DigestSums: laid · DigestSteps: laid · DigestPlays: laid · DigestNone: laid · DigestHolds: laid.
  DERIVED. THE GIVEN ROWS OF THIS SEAT. 6 by the template 'for every input the law returns true; each argument reads behind the call as it read before'; 0 by the template 'total and deterministic' (their statements: YtbhggjgghngeeaaDoorTotals.lean).
  GIVEN WITH THE SEED: the statements are not yours to turn. If you find one false, say at which input.
  Laid BY PROGRAM, IN A SANDBOX (cutbox-rows.mjs): the forced cells as the released guide's own fill.sh prints them over the translation 8c23592a4a8dfa55… (all of the seat's roots in one cut). By AI agents, Wed Nov 11 2026. No macro, syntax, notation, axiom, sorry.
-/
import Derived.Test.YtbhggjgghngeeaaDoorChecked
import GoSem.Claim
import GoSem.ClaimJoined
import GoSem.ClaimMapViews
import Derived.JoinedTies
import Derived.KernelRfl
namespace Go.Proofs.YtbhggjgghngeeaaDoor
/- THE CELL 'sum', in the pinned program and in every row, IS THE sha256 OF THE DUMP (.gsa) THAT YtbhggjgghngeeaaDoorProg.lean LOADS. Nothing in Lean hashes anything: it is a label: what it is worth is what the hold of that sum in a sandbox is worth. -/
noncomputable def Tryd.pinned : Pinned := { name := "ytbhggjgghngeeaadoor", sum := "8c23592a4a8dfa5500c2d4adbb648ac901b64184487db615ac84837b1ec31649", checked := Tryd.checked }
namespace Rows
def none {H : Type} : Left H := { results := [], args := [] }

/- WHAT THE LISTED PACKAGE-LEVEL VARIABLES READ AS WHEN THE CALL BEGINS. Each datum BY PROGRAM (the guide's laid-datum.mjs) off the statement by which the dump's own 'gosem.cut.vars' lays the variable. In a bare row this is a premise. The card (YtbhggjgghngeeaaDoorCards.lean) ties it to the program's text. -/
def laid_linesman_octet_widths {H : Type} : DataW H := .agg [.lit (.int .i64 1), .lit (.int .i64 2), .lit (.int .i64 4), .lit (.int .i64 8)]

/-- 'linesmanlaw01.OctetEach': WHATEVER THE INPUT: true; the input reads as it did. -/
def octetEachSpec : ChangeSpec := { name := "octetEach", fn := fun _ => fun
  | [d1, d2, d3] => { results := [.lit (.bool true)], args := [d1, d2, d3] }
  | _ => none }
def octetEachRow : OpenClaim := { program := "ytbhggjgghngeeaadoor", sum := "8c23592a4a8dfa5500c2d4adbb648ac901b64184487db615ac84837b1ec31649", func := "linesman/linesmanlaw01.OctetEach", spec := "octetEach", unfollowed := true, recurses := true, named := ["linesman/octet.widths"], apart := false, laid := [("linesman/octet.widths", laid_linesman_octet_widths)] }
def OctetEachSaid : Prop := octetEachRow.holds Tryd.pinned (OpenSpec.ofChange octetEachSpec)

/-- ITS FALSE NEIGHBOUR: 'it returns false'. Refute it at one input. -/
def octetEachWrong : ChangeSpec := { name := "octetEach", fn := fun _ => fun
  | [d1, d2, d3] => { results := [.lit (.bool false)], args := [d1, d2, d3] }
  | _ => none }
def OctetEachWrongFalsely : Prop := octetEachRow.holds Tryd.pinned (OpenSpec.ofChange octetEachWrong)

/-- 'linesmanlaw02.DigestSums': WHATEVER THE INPUT: true; the input reads as it did. -/
def digestSumsSpec : ChangeSpec := { name := "digestSums", fn := fun _ => fun
  | [d1, d2] => { results := [.lit (.bool true)], args := [d1, d2] }
  | _ => none }
def digestSumsRow : OpenClaim := { program := "ytbhggjgghngeeaadoor", sum := "8c23592a4a8dfa5500c2d4adbb648ac901b64184487db615ac84837b1ec31649", func := "linesman/linesmanlaw02.DigestSums", spec := "digestSums", unfollowed := true, recurses := true, named := ["linesman/octet.widths"], apart := false, laid := [("linesman/octet.widths", laid_linesman_octet_widths)] }
def DigestSumsSaid : Prop := digestSumsRow.holds Tryd.pinned (OpenSpec.ofChange digestSumsSpec)

/-- ITS FALSE NEIGHBOUR: 'it returns false'. Refute it at one input. -/
def digestSumsWrong : ChangeSpec := { name := "digestSums", fn := fun _ => fun
  | [d1, d2] => { results := [.lit (.bool false)], args := [d1, d2] }
  | _ => none }
def DigestSumsWrongFalsely : Prop := digestSumsRow.holds Tryd.pinned (OpenSpec.ofChange digestSumsWrong)

/-- 'linesmanlaw02.DigestSteps': WHATEVER THE INPUT: true; the input reads as it did. -/
def digestStepsSpec : ChangeSpec := { name := "digestSteps", fn := fun _ => fun
  | [d1, d2] => { results := [.lit (.bool true)], args := [d1, d2] }
  | _ => none }
def digestStepsRow : OpenClaim := { program := "ytbhggjgghngeeaadoor", sum := "8c23592a4a8dfa5500c2d4adbb648ac901b64184487db615ac84837b1ec31649", func := "linesman/linesmanlaw02.DigestSteps", spec := "digestSteps", unfollowed := true, recurses := true, named := ["linesman/octet.widths"], apart := false, laid := [("linesman/octet.widths", laid_linesman_octet_widths)] }
def DigestStepsSaid : Prop := digestStepsRow.holds Tryd.pinned (OpenSpec.ofChange digestStepsSpec)

/-- ITS FALSE NEIGHBOUR: 'it returns false'. Refute it at one input. -/
def digestStepsWrong : ChangeSpec := { name := "digestSteps", fn := fun _ => fun
  | [d1, d2] => { results := [.lit (.bool false)], args := [d1, d2] }
  | _ => none }
def DigestStepsWrongFalsely : Prop := digestStepsRow.holds Tryd.pinned (OpenSpec.ofChange digestStepsWrong)

/-- 'linesmanlaw02.DigestPlays': WHATEVER THE INPUT: true; the input reads as it did. -/
def digestPlaysSpec : ChangeSpec := { name := "digestPlays", fn := fun _ => fun
  | [d] => { results := [.lit (.bool true)], args := [d] }
  | _ => none }
def digestPlaysRow : OpenClaim := { program := "ytbhggjgghngeeaadoor", sum := "8c23592a4a8dfa5500c2d4adbb648ac901b64184487db615ac84837b1ec31649", func := "linesman/linesmanlaw02.DigestPlays", spec := "digestPlays", unfollowed := true, recurses := true, named := ["linesman/octet.widths"], apart := false, laid := [("linesman/octet.widths", laid_linesman_octet_widths)] }
def DigestPlaysSaid : Prop := digestPlaysRow.holds Tryd.pinned (OpenSpec.ofChange digestPlaysSpec)

/-- ITS FALSE NEIGHBOUR: 'it returns false'. Refute it at one input. -/
def digestPlaysWrong : ChangeSpec := { name := "digestPlays", fn := fun _ => fun
  | [d] => { results := [.lit (.bool false)], args := [d] }
  | _ => none }
def DigestPlaysWrongFalsely : Prop := digestPlaysRow.holds Tryd.pinned (OpenSpec.ofChange digestPlaysWrong)

/-- 'linesmanlaw02.DigestNone': WHATEVER THE INPUT: true; the input reads as it did. -/
def digestNoneSpec : ChangeSpec := { name := "digestNone", fn := fun _ => fun
  | [d1, d2, d3] => { results := [.lit (.bool true)], args := [d1, d2, d3] }
  | _ => none }
def digestNoneRow : OpenClaim := { program := "ytbhggjgghngeeaadoor", sum := "8c23592a4a8dfa5500c2d4adbb648ac901b64184487db615ac84837b1ec31649", func := "linesman/linesmanlaw02.DigestNone", spec := "digestNone", unfollowed := true, recurses := true, named := ["linesman/octet.widths"], apart := false, laid := [("linesman/octet.widths", laid_linesman_octet_widths)] }
def DigestNoneSaid : Prop := digestNoneRow.holds Tryd.pinned (OpenSpec.ofChange digestNoneSpec)

/-- ITS FALSE NEIGHBOUR: 'it returns false'. Refute it at one input. -/
def digestNoneWrong : ChangeSpec := { name := "digestNone", fn := fun _ => fun
  | [d1, d2, d3] => { results := [.lit (.bool false)], args := [d1, d2, d3] }
  | _ => none }
def DigestNoneWrongFalsely : Prop := digestNoneRow.holds Tryd.pinned (OpenSpec.ofChange digestNoneWrong)

/-- 'linesmanlaw02.DigestHolds': WHATEVER THE INPUT: true; the input reads as it did. -/
def digestHoldsSpec : ChangeSpec := { name := "digestHolds", fn := fun _ => fun
  | [d1, d2, d3] => { results := [.lit (.bool true)], args := [d1, d2, d3] }
  | _ => none }
def digestHoldsRow : OpenClaim := { program := "ytbhggjgghngeeaadoor", sum := "8c23592a4a8dfa5500c2d4adbb648ac901b64184487db615ac84837b1ec31649", func := "linesman/linesmanlaw02.DigestHolds", spec := "digestHolds", unfollowed := true, recurses := true, named := ["linesman/octet.widths"], apart := false, laid := [("linesman/octet.widths", laid_linesman_octet_widths)] }
def DigestHoldsSaid : Prop := digestHoldsRow.holds Tryd.pinned (OpenSpec.ofChange digestHoldsSpec)

/-- ITS FALSE NEIGHBOUR: 'it returns false'. Refute it at one input. -/
def digestHoldsWrong : ChangeSpec := { name := "digestHolds", fn := fun _ => fun
  | [d1, d2, d3] => { results := [.lit (.bool false)], args := [d1, d2, d3] }
  | _ => none }
def DigestHoldsWrongFalsely : Prop := digestHoldsRow.holds Tryd.pinned (OpenSpec.ofChange digestHoldsWrong)

/- THE SECOND FORM. 'bulk': how many values and letters a reading holds, each counted each time it is reached (what is shared counts as often as it is met; a slice's spare places count too). A statement '..UptoSaid' is the law's where the arguments, and the package variables that the reading takes, are together of bulk at most 1048576: NARROWER than '..Said'. Prove '..Said' where nothing that the law and all that it calls make is longer than what came in: it says more and counts as full. Else prove '..UptoSaid'. A law counts once. -/
mutual
def uptoBulk {H : Type} : DataW H → Nat
  | .lit (.string bytes) => bytes.length + 1
  | .lit _ => 1
  | .nil => 1
  | .ptr d => uptoBulk d + 1
  | .slice elems spare => uptoBulkAll elems + uptoBulkAll spare + 1
  | .agg parts => uptoBulkAll parts + 1
  | .iface _ d => uptoBulk d + 1
  | .map entries => uptoBulkEntries entries + 1
  | .held _ => 1
def uptoBulkAll {H : Type} : List (DataW H) → Nat
  | [] => 0
  | d :: r => uptoBulk d + uptoBulkAll r
def uptoBulkEntries {H : Type} : List (Lit × DataW H) → Nat
  | [] => 0
  | x :: r => uptoBulkEntry x + uptoBulkEntries r
def uptoBulkEntry {H : Type} : Lit × DataW H → Nat
  | (.string bytes, d) => bytes.length + uptoBulk d + 1
  | (_, d) => uptoBulk d + 1
 end
def uptoSmall : (H : Type) → List (DataW H) → Bool := fun _ ds => decide (uptoBulkAll ds ≤ 1048576)
def OpenSpec.upto (s : _root_.Go.ChangeSpec) : _root_.Go.OpenSpec := { _root_.Go.OpenSpec.ofChange s with cond := some uptoSmall }

/-- 'linesmanlaw01.OctetEach', WHERE WHAT IT READS IS OF BULK AT MOST 1048576: true; the input reads as it did. -/
def octetEachUptoRow : OpenClaim := { program := "ytbhggjgghngeeaadoor", sum := "8c23592a4a8dfa5500c2d4adbb648ac901b64184487db615ac84837b1ec31649", func := "linesman/linesmanlaw01.OctetEach", spec := "octetEach", unfollowed := true, recurses := true, named := ["linesman/octet.widths"], apart := false, laid := [("linesman/octet.widths", laid_linesman_octet_widths)], narrowed := true }
def OctetEachUptoSaid : Prop := octetEachUptoRow.holds Tryd.pinned (OpenSpec.upto octetEachSpec)

/-- 'linesmanlaw02.DigestSums', WHERE WHAT IT READS IS OF BULK AT MOST 1048576: true; the input reads as it did. -/
def digestSumsUptoRow : OpenClaim := { program := "ytbhggjgghngeeaadoor", sum := "8c23592a4a8dfa5500c2d4adbb648ac901b64184487db615ac84837b1ec31649", func := "linesman/linesmanlaw02.DigestSums", spec := "digestSums", unfollowed := true, recurses := true, named := ["linesman/octet.widths"], apart := false, laid := [("linesman/octet.widths", laid_linesman_octet_widths)], narrowed := true }
def DigestSumsUptoSaid : Prop := digestSumsUptoRow.holds Tryd.pinned (OpenSpec.upto digestSumsSpec)

/-- 'linesmanlaw02.DigestSteps', WHERE WHAT IT READS IS OF BULK AT MOST 1048576: true; the input reads as it did. -/
def digestStepsUptoRow : OpenClaim := { program := "ytbhggjgghngeeaadoor", sum := "8c23592a4a8dfa5500c2d4adbb648ac901b64184487db615ac84837b1ec31649", func := "linesman/linesmanlaw02.DigestSteps", spec := "digestSteps", unfollowed := true, recurses := true, named := ["linesman/octet.widths"], apart := false, laid := [("linesman/octet.widths", laid_linesman_octet_widths)], narrowed := true }
def DigestStepsUptoSaid : Prop := digestStepsUptoRow.holds Tryd.pinned (OpenSpec.upto digestStepsSpec)

/-- 'linesmanlaw02.DigestPlays', WHERE WHAT IT READS IS OF BULK AT MOST 1048576: true; the input reads as it did. -/
def digestPlaysUptoRow : OpenClaim := { program := "ytbhggjgghngeeaadoor", sum := "8c23592a4a8dfa5500c2d4adbb648ac901b64184487db615ac84837b1ec31649", func := "linesman/linesmanlaw02.DigestPlays", spec := "digestPlays", unfollowed := true, recurses := true, named := ["linesman/octet.widths"], apart := false, laid := [("linesman/octet.widths", laid_linesman_octet_widths)], narrowed := true }
def DigestPlaysUptoSaid : Prop := digestPlaysUptoRow.holds Tryd.pinned (OpenSpec.upto digestPlaysSpec)

/-- 'linesmanlaw02.DigestNone', WHERE WHAT IT READS IS OF BULK AT MOST 1048576: true; the input reads as it did. -/
def digestNoneUptoRow : OpenClaim := { program := "ytbhggjgghngeeaadoor", sum := "8c23592a4a8dfa5500c2d4adbb648ac901b64184487db615ac84837b1ec31649", func := "linesman/linesmanlaw02.DigestNone", spec := "digestNone", unfollowed := true, recurses := true, named := ["linesman/octet.widths"], apart := false, laid := [("linesman/octet.widths", laid_linesman_octet_widths)], narrowed := true }
def DigestNoneUptoSaid : Prop := digestNoneUptoRow.holds Tryd.pinned (OpenSpec.upto digestNoneSpec)

/-- 'linesmanlaw02.DigestHolds', WHERE WHAT IT READS IS OF BULK AT MOST 1048576: true; the input reads as it did. -/
def digestHoldsUptoRow : OpenClaim := { program := "ytbhggjgghngeeaadoor", sum := "8c23592a4a8dfa5500c2d4adbb648ac901b64184487db615ac84837b1ec31649", func := "linesman/linesmanlaw02.DigestHolds", spec := "digestHolds", unfollowed := true, recurses := true, named := ["linesman/octet.widths"], apart := false, laid := [("linesman/octet.widths", laid_linesman_octet_widths)], narrowed := true }
def DigestHoldsUptoSaid : Prop := digestHoldsUptoRow.holds Tryd.pinned (OpenSpec.upto digestHoldsSpec)

end Rows
end Go.Proofs.YtbhggjgghngeeaaDoor
