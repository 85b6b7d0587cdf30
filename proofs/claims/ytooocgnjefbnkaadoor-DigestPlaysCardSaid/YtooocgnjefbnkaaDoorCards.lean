/-
  DERIVED. GIVEN WITH THE SEED: THE CARDS: each row of YtooocgnjefbnkaaDoorRows.lean that lists a variable, with what it lists TIED to the program's text (the seventh form; the later family's looks); each row that meets fmt, with fmt's text TOLD by the authors' own Lean function (tested against real Go, not proved from fmt's source: count such statements apart). THE CARD IS WHAT COUNTS. Prove the row's statement (the work); the ties are given (YtooocgnjefbnkaaDoorTie.lean); close each card by the builder's one call (the guide's Derived/Test/ToyasCard.lean, 'card_holds'). Laid BY PROGRAM, IN A SANDBOX (cutbox-door.mjs). By AI agents, Wed Nov 11 2026. No macro, syntax, notation, axiom, sorry.
-/
import Derived.Test.YtooocgnjefbnkaaDoorRows
import GoSem.ClaimSeven
namespace Go.Proofs.YtooocgnjefbnkaaDoor
namespace Rows

/-- THE TIED CARD OF 'linesmanlaw02.DigestPlays'. -/
def digestPlaysCard : Claim7 := { stood := { row := digestPlaysRow, standIns := [], harness := (true, "c77081c96a8f3bcf746dd1ddedf9aa3e5dd347b7646eb3a11f4d2a9c46c63324"), looks := false }, kinds := [], alts := [], laidByText := true, laidKinds := [.data], laidTests := true, laidLooks := .later }
def DigestPlaysCardSaid : Prop := Claim7.holds Tryd.pinned (.plain (OpenSpec.ofChange digestPlaysSpec)) digestPlaysCard

/-- THE TIED CARD OF 'linesmanlaw05.ArithNames'. -/
def arithNamesCard : Claim7 := { stood := { row := arithNamesRow, standIns := [], harness := (true, "c77081c96a8f3bcf746dd1ddedf9aa3e5dd347b7646eb3a11f4d2a9c46c63324"), looks := false }, kinds := [], alts := [], laidByText := true, laidKinds := [.data], laidTests := true, laidLooks := .later }
def ArithNamesCardSaid : Prop := Claim7.holds Tryd.pinned (.plain (OpenSpec.ofChange arithNamesSpec)) arithNamesCard

/-- THE TIED CARD OF 'linesmanlaw05.ArithKinds'. -/
def arithKindsCard : Claim7 := { stood := { row := arithKindsRow, standIns := [], harness := (true, "c77081c96a8f3bcf746dd1ddedf9aa3e5dd347b7646eb3a11f4d2a9c46c63324"), looks := false }, kinds := [], alts := [], laidByText := true, laidKinds := [.data], laidTests := true, laidLooks := .later }
def ArithKindsCardSaid : Prop := Claim7.holds Tryd.pinned (.plain (OpenSpec.ofChange arithKindsSpec)) arithKindsCard

/-- THE SECOND FORM's CARD OF 'linesmanlaw02.DigestPlays'. -/
def digestPlaysUptoCard : Claim7 := { stood := { row := digestPlaysUptoRow, standIns := [], harness := (true, "c77081c96a8f3bcf746dd1ddedf9aa3e5dd347b7646eb3a11f4d2a9c46c63324"), looks := false }, kinds := [], alts := [], laidByText := true, laidKinds := [.data], laidTests := true, laidLooks := .later }
def DigestPlaysUptoCardSaid : Prop := Claim7.holds Tryd.pinned (.plain (OpenSpec.upto digestPlaysSpec)) digestPlaysUptoCard

/-- THE SECOND FORM's CARD OF 'linesmanlaw05.ArithNames'. -/
def arithNamesUptoCard : Claim7 := { stood := { row := arithNamesUptoRow, standIns := [], harness := (true, "c77081c96a8f3bcf746dd1ddedf9aa3e5dd347b7646eb3a11f4d2a9c46c63324"), looks := false }, kinds := [], alts := [], laidByText := true, laidKinds := [.data], laidTests := true, laidLooks := .later }
def ArithNamesUptoCardSaid : Prop := Claim7.holds Tryd.pinned (.plain (OpenSpec.upto arithNamesSpec)) arithNamesUptoCard

/-- THE SECOND FORM's CARD OF 'linesmanlaw05.ArithKinds'. -/
def arithKindsUptoCard : Claim7 := { stood := { row := arithKindsUptoRow, standIns := [], harness := (true, "c77081c96a8f3bcf746dd1ddedf9aa3e5dd347b7646eb3a11f4d2a9c46c63324"), looks := false }, kinds := [], alts := [], laidByText := true, laidKinds := [.data], laidTests := true, laidLooks := .later }
def ArithKindsUptoCardSaid : Prop := Claim7.holds Tryd.pinned (.plain (OpenSpec.upto arithKindsSpec)) arithKindsUptoCard
end Rows
end Go.Proofs.YtooocgnjefbnkaaDoor
