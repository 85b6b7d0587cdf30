/-
  NARROWER THAN 'FOR EVERY INPUT', by the rows' own cells (each row's printed sentence says how): OctetEach: laid · DigestPlays: laid · VectorTells: laid · VectorTicks: laid · VectorJoins: laid · VectorEach: laid · VectorHolds: laid.
  DERIVED. THE GIVEN ROWS OF THIS SEAT. 7 by the template 'for every input the law returns true; each argument reads behind the call as it read before'; 0 by the template 'total and deterministic' (their statements: YtcimppggemdidaaDoorTotals.lean).
  GIVEN WITH THE SEED: the statements are not yours to turn. If you find one false, say at which input.
  Laid BY PROGRAM, IN A SANDBOX (cutbox-rows.mjs): the forced cells as the released guide's own fill.sh prints them over the translation 5d23d0f42428186c… (all of the seat's roots in one cut). By AI agents, Wed Nov 11 2026. No macro, syntax, notation, axiom, sorry.
-/
import Derived.Test.YtcimppggemdidaaDoorChecked
import GoSem.Claim
import GoSem.ClaimJoined
import GoSem.ClaimMapViews
import Derived.JoinedTies
import Derived.KernelRfl
namespace Go.Proofs.YtcimppggemdidaaDoor
/- THE CELL 'sum', in the pinned program and in every row, IS THE sha256 OF THE DUMP (.gsa) THAT YtcimppggemdidaaDoorProg.lean LOADS. Nothing in Lean hashes anything: it is a label: what it is worth is what the hold of that sum in a sandbox is worth. -/
noncomputable def Tryd.pinned : Pinned := { name := "ytcimppggemdidaadoor", sum := "5d23d0f42428186c5877ac6b56afc70d59832282e246476cf7065542b2249af2", checked := Tryd.checked }
namespace Rows
def none {H : Type} : Left H := { results := [], args := [] }

/- WHAT THE LISTED PACKAGE-LEVEL VARIABLES READ AS WHEN THE CALL BEGINS. Each datum BY PROGRAM (the guide's laid-datum.mjs) off the statement by which the dump's own 'gosem.cut.vars' lays the variable. In a bare row this is a premise. The card (YtcimppggemdidaaDoorCards.lean) ties it to the program's text. -/
def laid_linesman_octet_widths {H : Type} : DataW H := .agg [.lit (.int .i64 1), .lit (.int .i64 2), .lit (.int .i64 4), .lit (.int .i64 8)]
def laid_linesman_vector_how {H : Type} : DataW H := .agg [.agg [.lit (.int .i64 4), .lit (.int .i64 3)], .agg [.lit (.int .i64 2), .lit (.int .i64 1)]]

/-- 'linesmanlaw01.OctetEach': WHATEVER THE INPUT: true; the input reads as it did. -/
def octetEachSpec : ChangeSpec := { name := "octetEach", fn := fun _ => fun
  | [d1, d2, d3] => { results := [.lit (.bool true)], args := [d1, d2, d3] }
  | _ => none }
def octetEachRow : OpenClaim := { program := "ytcimppggemdidaadoor", sum := "5d23d0f42428186c5877ac6b56afc70d59832282e246476cf7065542b2249af2", func := "linesman/linesmanlaw01.OctetEach", spec := "octetEach", unfollowed := true, recurses := true, named := ["linesman/octet.widths"], apart := false, laid := [("linesman/octet.widths", laid_linesman_octet_widths)] }
def OctetEachSaid : Prop := octetEachRow.holds Tryd.pinned (OpenSpec.ofChange octetEachSpec)

/-- ITS FALSE NEIGHBOUR: 'it returns false'. Refute it at one input. -/
def octetEachWrong : ChangeSpec := { name := "octetEach", fn := fun _ => fun
  | [d1, d2, d3] => { results := [.lit (.bool false)], args := [d1, d2, d3] }
  | _ => none }
def OctetEachWrongFalsely : Prop := octetEachRow.holds Tryd.pinned (OpenSpec.ofChange octetEachWrong)

/-- 'linesmanlaw02.DigestPlays': WHATEVER THE INPUT: true; the input reads as it did. -/
def digestPlaysSpec : ChangeSpec := { name := "digestPlays", fn := fun _ => fun
  | [d] => { results := [.lit (.bool true)], args := [d] }
  | _ => none }
def digestPlaysRow : OpenClaim := { program := "ytcimppggemdidaadoor", sum := "5d23d0f42428186c5877ac6b56afc70d59832282e246476cf7065542b2249af2", func := "linesman/linesmanlaw02.DigestPlays", spec := "digestPlays", unfollowed := true, recurses := true, named := ["linesman/octet.widths"], apart := false, laid := [("linesman/octet.widths", laid_linesman_octet_widths)] }
def DigestPlaysSaid : Prop := digestPlaysRow.holds Tryd.pinned (OpenSpec.ofChange digestPlaysSpec)

/-- ITS FALSE NEIGHBOUR: 'it returns false'. Refute it at one input. -/
def digestPlaysWrong : ChangeSpec := { name := "digestPlays", fn := fun _ => fun
  | [d] => { results := [.lit (.bool false)], args := [d] }
  | _ => none }
def DigestPlaysWrongFalsely : Prop := digestPlaysRow.holds Tryd.pinned (OpenSpec.ofChange digestPlaysWrong)

/-- 'linesmanlaw04.VectorTells': WHATEVER THE INPUT: true; the input reads as it did. -/
def vectorTellsSpec : ChangeSpec := { name := "vectorTells", fn := fun _ => fun
  | [d1, d2, d3] => { results := [.lit (.bool true)], args := [d1, d2, d3] }
  | _ => none }
def vectorTellsRow : OpenClaim := { program := "ytcimppggemdidaadoor", sum := "5d23d0f42428186c5877ac6b56afc70d59832282e246476cf7065542b2249af2", func := "linesman/linesmanlaw04.VectorTells", spec := "vectorTells", unfollowed := true, recurses := true, named := ["linesman/vector.how"], apart := false, laid := [("linesman/vector.how", laid_linesman_vector_how)] }
def VectorTellsSaid : Prop := vectorTellsRow.holds Tryd.pinned (OpenSpec.ofChange vectorTellsSpec)

/-- ITS FALSE NEIGHBOUR: 'it returns false'. Refute it at one input. -/
def vectorTellsWrong : ChangeSpec := { name := "vectorTells", fn := fun _ => fun
  | [d1, d2, d3] => { results := [.lit (.bool false)], args := [d1, d2, d3] }
  | _ => none }
def VectorTellsWrongFalsely : Prop := vectorTellsRow.holds Tryd.pinned (OpenSpec.ofChange vectorTellsWrong)

/-- 'linesmanlaw04.VectorTicks': WHATEVER THE INPUT: true; the input reads as it did. -/
def vectorTicksSpec : ChangeSpec := { name := "vectorTicks", fn := fun _ => fun
  | [d1, d2, d3] => { results := [.lit (.bool true)], args := [d1, d2, d3] }
  | _ => none }
def vectorTicksRow : OpenClaim := { program := "ytcimppggemdidaadoor", sum := "5d23d0f42428186c5877ac6b56afc70d59832282e246476cf7065542b2249af2", func := "linesman/linesmanlaw04.VectorTicks", spec := "vectorTicks", unfollowed := true, recurses := true, named := ["linesman/vector.how"], apart := false, laid := [("linesman/vector.how", laid_linesman_vector_how)] }
def VectorTicksSaid : Prop := vectorTicksRow.holds Tryd.pinned (OpenSpec.ofChange vectorTicksSpec)

/-- ITS FALSE NEIGHBOUR: 'it returns false'. Refute it at one input. -/
def vectorTicksWrong : ChangeSpec := { name := "vectorTicks", fn := fun _ => fun
  | [d1, d2, d3] => { results := [.lit (.bool false)], args := [d1, d2, d3] }
  | _ => none }
def VectorTicksWrongFalsely : Prop := vectorTicksRow.holds Tryd.pinned (OpenSpec.ofChange vectorTicksWrong)

/-- 'linesmanlaw04.VectorJoins': WHATEVER THE INPUT: true; the input reads as it did. -/
def vectorJoinsSpec : ChangeSpec := { name := "vectorJoins", fn := fun _ => fun
  | [d] => { results := [.lit (.bool true)], args := [d] }
  | _ => none }
def vectorJoinsRow : OpenClaim := { program := "ytcimppggemdidaadoor", sum := "5d23d0f42428186c5877ac6b56afc70d59832282e246476cf7065542b2249af2", func := "linesman/linesmanlaw04.VectorJoins", spec := "vectorJoins", unfollowed := true, recurses := true, named := ["linesman/vector.how"], apart := false, laid := [("linesman/vector.how", laid_linesman_vector_how)] }
def VectorJoinsSaid : Prop := vectorJoinsRow.holds Tryd.pinned (OpenSpec.ofChange vectorJoinsSpec)

/-- ITS FALSE NEIGHBOUR: 'it returns false'. Refute it at one input. -/
def vectorJoinsWrong : ChangeSpec := { name := "vectorJoins", fn := fun _ => fun
  | [d] => { results := [.lit (.bool false)], args := [d] }
  | _ => none }
def VectorJoinsWrongFalsely : Prop := vectorJoinsRow.holds Tryd.pinned (OpenSpec.ofChange vectorJoinsWrong)

/-- 'linesmanlaw04.VectorEach': WHATEVER THE INPUT: true; the input reads as it did. -/
def vectorEachSpec : ChangeSpec := { name := "vectorEach", fn := fun _ => fun
  | [d1, d2] => { results := [.lit (.bool true)], args := [d1, d2] }
  | _ => none }
def vectorEachRow : OpenClaim := { program := "ytcimppggemdidaadoor", sum := "5d23d0f42428186c5877ac6b56afc70d59832282e246476cf7065542b2249af2", func := "linesman/linesmanlaw04.VectorEach", spec := "vectorEach", unfollowed := true, recurses := true, named := ["linesman/vector.how"], apart := false, laid := [("linesman/vector.how", laid_linesman_vector_how)] }
def VectorEachSaid : Prop := vectorEachRow.holds Tryd.pinned (OpenSpec.ofChange vectorEachSpec)

/-- ITS FALSE NEIGHBOUR: 'it returns false'. Refute it at one input. -/
def vectorEachWrong : ChangeSpec := { name := "vectorEach", fn := fun _ => fun
  | [d1, d2] => { results := [.lit (.bool false)], args := [d1, d2] }
  | _ => none }
def VectorEachWrongFalsely : Prop := vectorEachRow.holds Tryd.pinned (OpenSpec.ofChange vectorEachWrong)

/-- 'linesmanlaw04.VectorHolds': WHATEVER THE INPUT: true; the input reads as it did. -/
def vectorHoldsSpec : ChangeSpec := { name := "vectorHolds", fn := fun _ => fun
  | [d1, d2] => { results := [.lit (.bool true)], args := [d1, d2] }
  | _ => none }
def vectorHoldsRow : OpenClaim := { program := "ytcimppggemdidaadoor", sum := "5d23d0f42428186c5877ac6b56afc70d59832282e246476cf7065542b2249af2", func := "linesman/linesmanlaw04.VectorHolds", spec := "vectorHolds", unfollowed := true, recurses := true, named := ["linesman/vector.how"], apart := false, laid := [("linesman/vector.how", laid_linesman_vector_how)] }
def VectorHoldsSaid : Prop := vectorHoldsRow.holds Tryd.pinned (OpenSpec.ofChange vectorHoldsSpec)

/-- ITS FALSE NEIGHBOUR: 'it returns false'. Refute it at one input. -/
def vectorHoldsWrong : ChangeSpec := { name := "vectorHolds", fn := fun _ => fun
  | [d1, d2] => { results := [.lit (.bool false)], args := [d1, d2] }
  | _ => none }
def VectorHoldsWrongFalsely : Prop := vectorHoldsRow.holds Tryd.pinned (OpenSpec.ofChange vectorHoldsWrong)

/- THE SECOND FORM. 'bulk': how many values and letters a reading holds, each counted each time it is reached (what is shared counts as often as it is met; a slice's spare places count too). A statement '..UptoSaid' is the law's where the arguments, and the package variables that the reading takes, are together of bulk at most 1048576: NARROWER than '..Said'. Prove '..Said' where nothing that the law and all that it calls make is longer than what came in: it says more and counts as full. Else prove '..UptoSaid'. A law counts once. -/
mutual
def uptoBulk {H : Type} : DataW H → Nat
  | .lit (.string bytes) => bytes.length + 1
  | .lit _ => 1
  | .nil => 1
  | .ptr d => uptoBulk d + 1
  | .slice elems spare => uptoBulkAll elems + uptoBulkAll spare + 1
  | .agg parts => uptoBulkAll parts + 1
  | .iface _ d => uptoBulk d + 1
  | .map entries => uptoBulkEntries entries + 1
  | .held _ => 1
def uptoBulkAll {H : Type} : List (DataW H) → Nat
  | [] => 0
  | d :: r => uptoBulk d + uptoBulkAll r
def uptoBulkEntries {H : Type} : List (Lit × DataW H) → Nat
  | [] => 0
  | x :: r => uptoBulkEntry x + uptoBulkEntries r
def uptoBulkEntry {H : Type} : Lit × DataW H → Nat
  | (.string bytes, d) => bytes.length + uptoBulk d + 1
  | (_, d) => uptoBulk d + 1
 end
def uptoSmall : (H : Type) → List (DataW H) → Bool := fun _ ds => decide (uptoBulkAll ds ≤ 1048576)
def OpenSpec.upto (s : _root_.Go.ChangeSpec) : _root_.Go.OpenSpec := { _root_.Go.OpenSpec.ofChange s with cond := some uptoSmall }

/-- 'linesmanlaw01.OctetEach', WHERE WHAT IT READS IS OF BULK AT MOST 1048576: true; the input reads as it did. -/
def octetEachUptoRow : OpenClaim := { program := "ytcimppggemdidaadoor", sum := "5d23d0f42428186c5877ac6b56afc70d59832282e246476cf7065542b2249af2", func := "linesman/linesmanlaw01.OctetEach", spec := "octetEach", unfollowed := true, recurses := true, named := ["linesman/octet.widths"], apart := false, laid := [("linesman/octet.widths", laid_linesman_octet_widths)], narrowed := true }
def OctetEachUptoSaid : Prop := octetEachUptoRow.holds Tryd.pinned (OpenSpec.upto octetEachSpec)

/-- 'linesmanlaw02.DigestPlays', WHERE WHAT IT READS IS OF BULK AT MOST 1048576: true; the input reads as it did. -/
def digestPlaysUptoRow : OpenClaim := { program := "ytcimppggemdidaadoor", sum := "5d23d0f42428186c5877ac6b56afc70d59832282e246476cf7065542b2249af2", func := "linesman/linesmanlaw02.DigestPlays", spec := "digestPlays", unfollowed := true, recurses := true, named := ["linesman/octet.widths"], apart := false, laid := [("linesman/octet.widths", laid_linesman_octet_widths)], narrowed := true }
def DigestPlaysUptoSaid : Prop := digestPlaysUptoRow.holds Tryd.pinned (OpenSpec.upto digestPlaysSpec)

/-- 'linesmanlaw04.VectorTells', WHERE WHAT IT READS IS OF BULK AT MOST 1048576: true; the input reads as it did. -/
def vectorTellsUptoRow : OpenClaim := { program := "ytcimppggemdidaadoor", sum := "5d23d0f42428186c5877ac6b56afc70d59832282e246476cf7065542b2249af2", func := "linesman/linesmanlaw04.VectorTells", spec := "vectorTells", unfollowed := true, recurses := true, named := ["linesman/vector.how"], apart := false, laid := [("linesman/vector.how", laid_linesman_vector_how)], narrowed := true }
def VectorTellsUptoSaid : Prop := vectorTellsUptoRow.holds Tryd.pinned (OpenSpec.upto vectorTellsSpec)

/-- 'linesmanlaw04.VectorTicks', WHERE WHAT IT READS IS OF BULK AT MOST 1048576: true; the input reads as it did. -/
def vectorTicksUptoRow : OpenClaim := { program := "ytcimppggemdidaadoor", sum := "5d23d0f42428186c5877ac6b56afc70d59832282e246476cf7065542b2249af2", func := "linesman/linesmanlaw04.VectorTicks", spec := "vectorTicks", unfollowed := true, recurses := true, named := ["linesman/vector.how"], apart := false, laid := [("linesman/vector.how", laid_linesman_vector_how)], narrowed := true }
def VectorTicksUptoSaid : Prop := vectorTicksUptoRow.holds Tryd.pinned (OpenSpec.upto vectorTicksSpec)

/-- 'linesmanlaw04.VectorJoins', WHERE WHAT IT READS IS OF BULK AT MOST 1048576: true; the input reads as it did. -/
def vectorJoinsUptoRow : OpenClaim := { program := "ytcimppggemdidaadoor", sum := "5d23d0f42428186c5877ac6b56afc70d59832282e246476cf7065542b2249af2", func := "linesman/linesmanlaw04.VectorJoins", spec := "vectorJoins", unfollowed := true, recurses := true, named := ["linesman/vector.how"], apart := false, laid := [("linesman/vector.how", laid_linesman_vector_how)], narrowed := true }
def VectorJoinsUptoSaid : Prop := vectorJoinsUptoRow.holds Tryd.pinned (OpenSpec.upto vectorJoinsSpec)

/-- 'linesmanlaw04.VectorEach', WHERE WHAT IT READS IS OF BULK AT MOST 1048576: true; the input reads as it did. -/
def vectorEachUptoRow : OpenClaim := { program := "ytcimppggemdidaadoor", sum := "5d23d0f42428186c5877ac6b56afc70d59832282e246476cf7065542b2249af2", func := "linesman/linesmanlaw04.VectorEach", spec := "vectorEach", unfollowed := true, recurses := true, named := ["linesman/vector.how"], apart := false, laid := [("linesman/vector.how", laid_linesman_vector_how)], narrowed := true }
def VectorEachUptoSaid : Prop := vectorEachUptoRow.holds Tryd.pinned (OpenSpec.upto vectorEachSpec)

/-- 'linesmanlaw04.VectorHolds', WHERE WHAT IT READS IS OF BULK AT MOST 1048576: true; the input reads as it did. -/
def vectorHoldsUptoRow : OpenClaim := { program := "ytcimppggemdidaadoor", sum := "5d23d0f42428186c5877ac6b56afc70d59832282e246476cf7065542b2249af2", func := "linesman/linesmanlaw04.VectorHolds", spec := "vectorHolds", unfollowed := true, recurses := true, named := ["linesman/vector.how"], apart := false, laid := [("linesman/vector.how", laid_linesman_vector_how)], narrowed := true }
def VectorHoldsUptoSaid : Prop := vectorHoldsUptoRow.holds Tryd.pinned (OpenSpec.upto vectorHoldsSpec)

end Rows
end Go.Proofs.YtcimppggemdidaaDoor
