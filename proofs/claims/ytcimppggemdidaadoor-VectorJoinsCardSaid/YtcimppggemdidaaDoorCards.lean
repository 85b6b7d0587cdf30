/-
  DERIVED. GIVEN WITH THE SEED: THE CARDS: each row of YtcimppggemdidaaDoorRows.lean that lists a variable, with what it lists TIED to the program's text (the seventh form; the later family's looks); each row that meets fmt, with fmt's text TOLD by the authors' own Lean function (tested against real Go, not proved from fmt's source: count such statements apart). THE CARD IS WHAT COUNTS. Prove the row's statement (the work); the ties are given (YtcimppggemdidaaDoorTie.lean); close each card by the builder's one call (the guide's Derived/Test/ToyasCard.lean, 'card_holds'). Laid BY PROGRAM, IN A SANDBOX (cutbox-door.mjs). By AI agents, Wed Nov 11 2026. No macro, syntax, notation, axiom, sorry.
-/
import Derived.Test.YtcimppggemdidaaDoorRows
import GoSem.ClaimSeven
namespace Go.Proofs.YtcimppggemdidaaDoor
namespace Rows

/-- THE TIED CARD OF 'linesmanlaw01.OctetEach'. -/
def octetEachCard : Claim7 := { stood := { row := octetEachRow, standIns := [], harness := (true, "0227441aa572aab3d1fa476cf0ed829babd16ab095664815aac29b709911c204"), looks := false }, kinds := [], alts := [], laidByText := true, laidKinds := [.data], laidTests := true, laidLooks := .later }
def OctetEachCardSaid : Prop := Claim7.holds Tryd.pinned (.plain (OpenSpec.ofChange octetEachSpec)) octetEachCard

/-- THE TIED CARD OF 'linesmanlaw02.DigestPlays'. -/
def digestPlaysCard : Claim7 := { stood := { row := digestPlaysRow, standIns := [], harness := (true, "0227441aa572aab3d1fa476cf0ed829babd16ab095664815aac29b709911c204"), looks := false }, kinds := [], alts := [], laidByText := true, laidKinds := [.data], laidTests := true, laidLooks := .later }
def DigestPlaysCardSaid : Prop := Claim7.holds Tryd.pinned (.plain (OpenSpec.ofChange digestPlaysSpec)) digestPlaysCard

/-- THE TIED CARD OF 'linesmanlaw04.VectorTells'. -/
def vectorTellsCard : Claim7 := { stood := { row := vectorTellsRow, standIns := [], harness := (true, "0227441aa572aab3d1fa476cf0ed829babd16ab095664815aac29b709911c204"), looks := false }, kinds := [], alts := [], laidByText := true, laidKinds := [.data], laidTests := true, laidLooks := .later }
def VectorTellsCardSaid : Prop := Claim7.holds Tryd.pinned (.plain (OpenSpec.ofChange vectorTellsSpec)) vectorTellsCard

/-- THE TIED CARD OF 'linesmanlaw04.VectorTicks'. -/
def vectorTicksCard : Claim7 := { stood := { row := vectorTicksRow, standIns := [], harness := (true, "0227441aa572aab3d1fa476cf0ed829babd16ab095664815aac29b709911c204"), looks := false }, kinds := [], alts := [], laidByText := true, laidKinds := [.data], laidTests := true, laidLooks := .later }
def VectorTicksCardSaid : Prop := Claim7.holds Tryd.pinned (.plain (OpenSpec.ofChange vectorTicksSpec)) vectorTicksCard

/-- THE TIED CARD OF 'linesmanlaw04.VectorJoins'. -/
def vectorJoinsCard : Claim7 := { stood := { row := vectorJoinsRow, standIns := [], harness := (true, "0227441aa572aab3d1fa476cf0ed829babd16ab095664815aac29b709911c204"), looks := false }, kinds := [], alts := [], laidByText := true, laidKinds := [.data], laidTests := true, laidLooks := .later }
def VectorJoinsCardSaid : Prop := Claim7.holds Tryd.pinned (.plain (OpenSpec.ofChange vectorJoinsSpec)) vectorJoinsCard

/-- THE TIED CARD OF 'linesmanlaw04.VectorEach'. -/
def vectorEachCard : Claim7 := { stood := { row := vectorEachRow, standIns := [], harness := (true, "0227441aa572aab3d1fa476cf0ed829babd16ab095664815aac29b709911c204"), looks := false }, kinds := [], alts := [], laidByText := true, laidKinds := [.data], laidTests := true, laidLooks := .later }
def VectorEachCardSaid : Prop := Claim7.holds Tryd.pinned (.plain (OpenSpec.ofChange vectorEachSpec)) vectorEachCard

/-- THE TIED CARD OF 'linesmanlaw04.VectorHolds'. -/
def vectorHoldsCard : Claim7 := { stood := { row := vectorHoldsRow, standIns := [], harness := (true, "0227441aa572aab3d1fa476cf0ed829babd16ab095664815aac29b709911c204"), looks := false }, kinds := [], alts := [], laidByText := true, laidKinds := [.data], laidTests := true, laidLooks := .later }
def VectorHoldsCardSaid : Prop := Claim7.holds Tryd.pinned (.plain (OpenSpec.ofChange vectorHoldsSpec)) vectorHoldsCard

/-- THE SECOND FORM's CARD OF 'linesmanlaw01.OctetEach'. -/
def octetEachUptoCard : Claim7 := { stood := { row := octetEachUptoRow, standIns := [], harness := (true, "0227441aa572aab3d1fa476cf0ed829babd16ab095664815aac29b709911c204"), looks := false }, kinds := [], alts := [], laidByText := true, laidKinds := [.data], laidTests := true, laidLooks := .later }
def OctetEachUptoCardSaid : Prop := Claim7.holds Tryd.pinned (.plain (OpenSpec.upto octetEachSpec)) octetEachUptoCard

/-- THE SECOND FORM's CARD OF 'linesmanlaw02.DigestPlays'. -/
def digestPlaysUptoCard : Claim7 := { stood := { row := digestPlaysUptoRow, standIns := [], harness := (true, "0227441aa572aab3d1fa476cf0ed829babd16ab095664815aac29b709911c204"), looks := false }, kinds := [], alts := [], laidByText := true, laidKinds := [.data], laidTests := true, laidLooks := .later }
def DigestPlaysUptoCardSaid : Prop := Claim7.holds Tryd.pinned (.plain (OpenSpec.upto digestPlaysSpec)) digestPlaysUptoCard

/-- THE SECOND FORM's CARD OF 'linesmanlaw04.VectorTells'. -/
def vectorTellsUptoCard : Claim7 := { stood := { row := vectorTellsUptoRow, standIns := [], harness := (true, "0227441aa572aab3d1fa476cf0ed829babd16ab095664815aac29b709911c204"), looks := false }, kinds := [], alts := [], laidByText := true, laidKinds := [.data], laidTests := true, laidLooks := .later }
def VectorTellsUptoCardSaid : Prop := Claim7.holds Tryd.pinned (.plain (OpenSpec.upto vectorTellsSpec)) vectorTellsUptoCard

/-- THE SECOND FORM's CARD OF 'linesmanlaw04.VectorTicks'. -/
def vectorTicksUptoCard : Claim7 := { stood := { row := vectorTicksUptoRow, standIns := [], harness := (true, "0227441aa572aab3d1fa476cf0ed829babd16ab095664815aac29b709911c204"), looks := false }, kinds := [], alts := [], laidByText := true, laidKinds := [.data], laidTests := true, laidLooks := .later }
def VectorTicksUptoCardSaid : Prop := Claim7.holds Tryd.pinned (.plain (OpenSpec.upto vectorTicksSpec)) vectorTicksUptoCard

/-- THE SECOND FORM's CARD OF 'linesmanlaw04.VectorJoins'. -/
def vectorJoinsUptoCard : Claim7 := { stood := { row := vectorJoinsUptoRow, standIns := [], harness := (true, "0227441aa572aab3d1fa476cf0ed829babd16ab095664815aac29b709911c204"), looks := false }, kinds := [], alts := [], laidByText := true, laidKinds := [.data], laidTests := true, laidLooks := .later }
def VectorJoinsUptoCardSaid : Prop := Claim7.holds Tryd.pinned (.plain (OpenSpec.upto vectorJoinsSpec)) vectorJoinsUptoCard

/-- THE SECOND FORM's CARD OF 'linesmanlaw04.VectorEach'. -/
def vectorEachUptoCard : Claim7 := { stood := { row := vectorEachUptoRow, standIns := [], harness := (true, "0227441aa572aab3d1fa476cf0ed829babd16ab095664815aac29b709911c204"), looks := false }, kinds := [], alts := [], laidByText := true, laidKinds := [.data], laidTests := true, laidLooks := .later }
def VectorEachUptoCardSaid : Prop := Claim7.holds Tryd.pinned (.plain (OpenSpec.upto vectorEachSpec)) vectorEachUptoCard

/-- THE SECOND FORM's CARD OF 'linesmanlaw04.VectorHolds'. -/
def vectorHoldsUptoCard : Claim7 := { stood := { row := vectorHoldsUptoRow, standIns := [], harness := (true, "0227441aa572aab3d1fa476cf0ed829babd16ab095664815aac29b709911c204"), looks := false }, kinds := [], alts := [], laidByText := true, laidKinds := [.data], laidTests := true, laidLooks := .later }
def VectorHoldsUptoCardSaid : Prop := Claim7.holds Tryd.pinned (.plain (OpenSpec.upto vectorHoldsSpec)) vectorHoldsUptoCard
end Rows
end Go.Proofs.YtcimppggemdidaaDoor
