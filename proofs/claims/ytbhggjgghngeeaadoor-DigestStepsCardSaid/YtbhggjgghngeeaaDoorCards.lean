/-
  DERIVED. GIVEN WITH THE SEED: THE CARDS: each row of YtbhggjgghngeeaaDoorRows.lean that lists a variable, with what it lists TIED to the program's text (the seventh form; the later family's looks); each row that meets fmt, with fmt's text TOLD by the authors' own Lean function (tested against real Go, not proved from fmt's source: count such statements apart). THE CARD IS WHAT COUNTS. Prove the row's statement (the work); the ties are given (YtbhggjgghngeeaaDoorTie.lean); close each card by the builder's one call (the guide's Derived/Test/ToyasCard.lean, 'card_holds'). Laid BY PROGRAM, IN A SANDBOX (cutbox-door.mjs). By AI agents, Wed Nov 11 2026. No macro, syntax, notation, axiom, sorry.
-/
import Derived.Test.YtbhggjgghngeeaaDoorRows
import GoSem.ClaimSeven
namespace Go.Proofs.YtbhggjgghngeeaaDoor
namespace Rows

/-- THE TIED CARD OF 'linesmanlaw01.OctetEach'. -/
def octetEachCard : Claim7 := { stood := { row := octetEachRow, standIns := [], harness := (true, "a4602b976349f270ddf24a52c895e9654d5ce5bf1e62fbb62dd133c315708194"), looks := false }, kinds := [], alts := [], laidByText := true, laidKinds := [.data], laidTests := true, laidLooks := .later }
def OctetEachCardSaid : Prop := Claim7.holds Tryd.pinned (.plain (OpenSpec.ofChange octetEachSpec)) octetEachCard

/-- THE TIED CARD OF 'linesmanlaw02.DigestSums'. -/
def digestSumsCard : Claim7 := { stood := { row := digestSumsRow, standIns := [], harness := (true, "a4602b976349f270ddf24a52c895e9654d5ce5bf1e62fbb62dd133c315708194"), looks := false }, kinds := [], alts := [], laidByText := true, laidKinds := [.data], laidTests := true, laidLooks := .later }
def DigestSumsCardSaid : Prop := Claim7.holds Tryd.pinned (.plain (OpenSpec.ofChange digestSumsSpec)) digestSumsCard

/-- THE TIED CARD OF 'linesmanlaw02.DigestSteps'. -/
def digestStepsCard : Claim7 := { stood := { row := digestStepsRow, standIns := [], harness := (true, "a4602b976349f270ddf24a52c895e9654d5ce5bf1e62fbb62dd133c315708194"), looks := false }, kinds := [], alts := [], laidByText := true, laidKinds := [.data], laidTests := true, laidLooks := .later }
def DigestStepsCardSaid : Prop := Claim7.holds Tryd.pinned (.plain (OpenSpec.ofChange digestStepsSpec)) digestStepsCard

/-- THE TIED CARD OF 'linesmanlaw02.DigestPlays'. -/
def digestPlaysCard : Claim7 := { stood := { row := digestPlaysRow, standIns := [], harness := (true, "a4602b976349f270ddf24a52c895e9654d5ce5bf1e62fbb62dd133c315708194"), looks := false }, kinds := [], alts := [], laidByText := true, laidKinds := [.data], laidTests := true, laidLooks := .later }
def DigestPlaysCardSaid : Prop := Claim7.holds Tryd.pinned (.plain (OpenSpec.ofChange digestPlaysSpec)) digestPlaysCard

/-- THE TIED CARD OF 'linesmanlaw02.DigestNone'. -/
def digestNoneCard : Claim7 := { stood := { row := digestNoneRow, standIns := [], harness := (true, "a4602b976349f270ddf24a52c895e9654d5ce5bf1e62fbb62dd133c315708194"), looks := false }, kinds := [], alts := [], laidByText := true, laidKinds := [.data], laidTests := true, laidLooks := .later }
def DigestNoneCardSaid : Prop := Claim7.holds Tryd.pinned (.plain (OpenSpec.ofChange digestNoneSpec)) digestNoneCard

/-- THE TIED CARD OF 'linesmanlaw02.DigestHolds'. -/
def digestHoldsCard : Claim7 := { stood := { row := digestHoldsRow, standIns := [], harness := (true, "a4602b976349f270ddf24a52c895e9654d5ce5bf1e62fbb62dd133c315708194"), looks := false }, kinds := [], alts := [], laidByText := true, laidKinds := [.data], laidTests := true, laidLooks := .later }
def DigestHoldsCardSaid : Prop := Claim7.holds Tryd.pinned (.plain (OpenSpec.ofChange digestHoldsSpec)) digestHoldsCard

/-- THE SECOND FORM's CARD OF 'linesmanlaw01.OctetEach'. -/
def octetEachUptoCard : Claim7 := { stood := { row := octetEachUptoRow, standIns := [], harness := (true, "a4602b976349f270ddf24a52c895e9654d5ce5bf1e62fbb62dd133c315708194"), looks := false }, kinds := [], alts := [], laidByText := true, laidKinds := [.data], laidTests := true, laidLooks := .later }
def OctetEachUptoCardSaid : Prop := Claim7.holds Tryd.pinned (.plain (OpenSpec.upto octetEachSpec)) octetEachUptoCard

/-- THE SECOND FORM's CARD OF 'linesmanlaw02.DigestSums'. -/
def digestSumsUptoCard : Claim7 := { stood := { row := digestSumsUptoRow, standIns := [], harness := (true, "a4602b976349f270ddf24a52c895e9654d5ce5bf1e62fbb62dd133c315708194"), looks := false }, kinds := [], alts := [], laidByText := true, laidKinds := [.data], laidTests := true, laidLooks := .later }
def DigestSumsUptoCardSaid : Prop := Claim7.holds Tryd.pinned (.plain (OpenSpec.upto digestSumsSpec)) digestSumsUptoCard

/-- THE SECOND FORM's CARD OF 'linesmanlaw02.DigestSteps'. -/
def digestStepsUptoCard : Claim7 := { stood := { row := digestStepsUptoRow, standIns := [], harness := (true, "a4602b976349f270ddf24a52c895e9654d5ce5bf1e62fbb62dd133c315708194"), looks := false }, kinds := [], alts := [], laidByText := true, laidKinds := [.data], laidTests := true, laidLooks := .later }
def DigestStepsUptoCardSaid : Prop := Claim7.holds Tryd.pinned (.plain (OpenSpec.upto digestStepsSpec)) digestStepsUptoCard

/-- THE SECOND FORM's CARD OF 'linesmanlaw02.DigestPlays'. -/
def digestPlaysUptoCard : Claim7 := { stood := { row := digestPlaysUptoRow, standIns := [], harness := (true, "a4602b976349f270ddf24a52c895e9654d5ce5bf1e62fbb62dd133c315708194"), looks := false }, kinds := [], alts := [], laidByText := true, laidKinds := [.data], laidTests := true, laidLooks := .later }
def DigestPlaysUptoCardSaid : Prop := Claim7.holds Tryd.pinned (.plain (OpenSpec.upto digestPlaysSpec)) digestPlaysUptoCard

/-- THE SECOND FORM's CARD OF 'linesmanlaw02.DigestNone'. -/
def digestNoneUptoCard : Claim7 := { stood := { row := digestNoneUptoRow, standIns := [], harness := (true, "a4602b976349f270ddf24a52c895e9654d5ce5bf1e62fbb62dd133c315708194"), looks := false }, kinds := [], alts := [], laidByText := true, laidKinds := [.data], laidTests := true, laidLooks := .later }
def DigestNoneUptoCardSaid : Prop := Claim7.holds Tryd.pinned (.plain (OpenSpec.upto digestNoneSpec)) digestNoneUptoCard

/-- THE SECOND FORM's CARD OF 'linesmanlaw02.DigestHolds'. -/
def digestHoldsUptoCard : Claim7 := { stood := { row := digestHoldsUptoRow, standIns := [], harness := (true, "a4602b976349f270ddf24a52c895e9654d5ce5bf1e62fbb62dd133c315708194"), looks := false }, kinds := [], alts := [], laidByText := true, laidKinds := [.data], laidTests := true, laidLooks := .later }
def DigestHoldsUptoCardSaid : Prop := Claim7.holds Tryd.pinned (.plain (OpenSpec.upto digestHoldsSpec)) digestHoldsUptoCard
end Rows
end Go.Proofs.YtbhggjgghngeeaaDoor
