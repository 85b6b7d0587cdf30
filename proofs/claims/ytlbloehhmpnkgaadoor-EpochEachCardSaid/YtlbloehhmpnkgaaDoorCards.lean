/-
  DERIVED. GIVEN WITH THE SEED: THE CARDS: each row of YtlbloehhmpnkgaaDoorRows.lean that lists a variable, with what it lists TIED to the program's text (the seventh form; the later family's looks); each row that meets fmt, with fmt's text TOLD by the authors' own Lean function (tested against real Go, not proved from fmt's source: count such statements apart). THE CARD IS WHAT COUNTS. Prove the row's statement (the work); the ties are given (YtlbloehhmpnkgaaDoorTie.lean); close each card by the builder's one call (the guide's Derived/Test/ToyasCard.lean, 'card_holds'). Laid BY PROGRAM, IN A SANDBOX (cutbox-door.mjs). By AI agents, Wed Nov 11 2026. No macro, syntax, notation, axiom, sorry.
-/
import Derived.Test.YtlbloehhmpnkgaaDoorRows
import GoSem.ClaimSeven
namespace Go.Proofs.YtlbloehhmpnkgaaDoor
namespace Rows

/-- THE TIED CARD OF 'linesmanlaw01.OctetEach'. -/
def octetEachCard : Claim7 := { stood := { row := octetEachRow, standIns := [], harness := (true, "df61e996e96dba6d99dc2dafab527465162c4efb209b272b280560e47377ff37"), looks := true }, kinds := [], alts := [], laidByText := true, laidKinds := [.data], laidTests := true, laidLooks := .later }
def OctetEachCardSaid : Prop := Claim7.holds Tryd.pinned (.plain (OpenSpec.ofChange octetEachSpec)) octetEachCard

/-- THE TIED CARD OF 'linesmanlaw02.DigestPlays'. -/
def digestPlaysCard : Claim7 := { stood := { row := digestPlaysRow, standIns := [], harness := (true, "df61e996e96dba6d99dc2dafab527465162c4efb209b272b280560e47377ff37"), looks := true }, kinds := [], alts := [], laidByText := true, laidKinds := [.data], laidTests := true, laidLooks := .later }
def DigestPlaysCardSaid : Prop := Claim7.holds Tryd.pinned (.plain (OpenSpec.ofChange digestPlaysSpec)) digestPlaysCard

/-- THE TIED CARD OF 'linesmanlaw03.EpochPacks'. -/
def epochPacksCard : Claim7 := { stood := { row := epochPacksRow, standIns := [], harness := (true, "df61e996e96dba6d99dc2dafab527465162c4efb209b272b280560e47377ff37"), looks := true }, kinds := [], alts := [], laidByText := true, laidKinds := [.data, .data, .data, .sentinel, .sentinel], laidTests := true, laidLooks := .later }
def EpochPacksCardSaid : Prop := Claim7.holds Tryd.pinned (.plain (OpenSpec.ofChange epochPacksSpec)) epochPacksCard

/-- THE TIED CARD OF 'linesmanlaw03.EpochNext'. -/
def epochNextCard : Claim7 := { stood := { row := epochNextRow, standIns := [], harness := (true, "df61e996e96dba6d99dc2dafab527465162c4efb209b272b280560e47377ff37"), looks := true }, kinds := [], alts := [], laidByText := true, laidKinds := [.data, .data, .data, .sentinel, .sentinel], laidTests := true, laidLooks := .later }
def EpochNextCardSaid : Prop := Claim7.holds Tryd.pinned (.plain (OpenSpec.ofChange epochNextSpec)) epochNextCard

/-- THE TIED CARD OF 'linesmanlaw03.EpochTexts'. -/
def epochTextsCard : Claim7 := { stood := { row := epochTextsRow, standIns := [], harness := (true, "df61e996e96dba6d99dc2dafab527465162c4efb209b272b280560e47377ff37"), looks := true }, kinds := [], alts := [], laidByText := true, laidKinds := [.data, .data, .data, .sentinel, .sentinel], laidTests := true, laidLooks := .later }
def EpochTextsCardSaid : Prop := Claim7.holds Tryd.pinned (.plain (OpenSpec.ofChange epochTextsSpec)) epochTextsCard

/-- THE TIED CARD OF 'linesmanlaw03.EpochEach'. -/
def epochEachCard : Claim7 := { stood := { row := epochEachRow, standIns := [], harness := (true, "df61e996e96dba6d99dc2dafab527465162c4efb209b272b280560e47377ff37"), looks := true }, kinds := [], alts := [], laidByText := true, laidKinds := [.data, .data, .data, .sentinel, .sentinel], laidTests := true, laidLooks := .later }
def EpochEachCardSaid : Prop := Claim7.holds Tryd.pinned (.plain (OpenSpec.ofChange epochEachSpec)) epochEachCard

/-- THE TIED CARD OF 'linesmanlaw03.EpochHolds'. -/
def epochHoldsCard : Claim7 := { stood := { row := epochHoldsRow, standIns := [], harness := (true, "df61e996e96dba6d99dc2dafab527465162c4efb209b272b280560e47377ff37"), looks := true }, kinds := [], alts := [], laidByText := true, laidKinds := [.data, .data, .data, .sentinel, .sentinel], laidTests := true, laidLooks := .later }
def EpochHoldsCardSaid : Prop := Claim7.holds Tryd.pinned (.plain (OpenSpec.ofChange epochHoldsSpec)) epochHoldsCard

/-- THE SECOND FORM's CARD OF 'linesmanlaw01.OctetEach'. -/
def octetEachUptoCard : Claim7 := { stood := { row := octetEachUptoRow, standIns := [], harness := (true, "df61e996e96dba6d99dc2dafab527465162c4efb209b272b280560e47377ff37"), looks := true }, kinds := [], alts := [], laidByText := true, laidKinds := [.data], laidTests := true, laidLooks := .later }
def OctetEachUptoCardSaid : Prop := Claim7.holds Tryd.pinned (.plain (OpenSpec.upto octetEachSpec)) octetEachUptoCard

/-- THE SECOND FORM's CARD OF 'linesmanlaw02.DigestPlays'. -/
def digestPlaysUptoCard : Claim7 := { stood := { row := digestPlaysUptoRow, standIns := [], harness := (true, "df61e996e96dba6d99dc2dafab527465162c4efb209b272b280560e47377ff37"), looks := true }, kinds := [], alts := [], laidByText := true, laidKinds := [.data], laidTests := true, laidLooks := .later }
def DigestPlaysUptoCardSaid : Prop := Claim7.holds Tryd.pinned (.plain (OpenSpec.upto digestPlaysSpec)) digestPlaysUptoCard

/-- THE SECOND FORM's CARD OF 'linesmanlaw03.EpochPacks'. -/
def epochPacksUptoCard : Claim7 := { stood := { row := epochPacksUptoRow, standIns := [], harness := (true, "df61e996e96dba6d99dc2dafab527465162c4efb209b272b280560e47377ff37"), looks := true }, kinds := [], alts := [], laidByText := true, laidKinds := [.data, .data, .data, .sentinel, .sentinel], laidTests := true, laidLooks := .later }
def EpochPacksUptoCardSaid : Prop := Claim7.holds Tryd.pinned (.plain (OpenSpec.upto epochPacksSpec)) epochPacksUptoCard

/-- THE SECOND FORM's CARD OF 'linesmanlaw03.EpochNext'. -/
def epochNextUptoCard : Claim7 := { stood := { row := epochNextUptoRow, standIns := [], harness := (true, "df61e996e96dba6d99dc2dafab527465162c4efb209b272b280560e47377ff37"), looks := true }, kinds := [], alts := [], laidByText := true, laidKinds := [.data, .data, .data, .sentinel, .sentinel], laidTests := true, laidLooks := .later }
def EpochNextUptoCardSaid : Prop := Claim7.holds Tryd.pinned (.plain (OpenSpec.upto epochNextSpec)) epochNextUptoCard

/-- THE SECOND FORM's CARD OF 'linesmanlaw03.EpochTexts'. -/
def epochTextsUptoCard : Claim7 := { stood := { row := epochTextsUptoRow, standIns := [], harness := (true, "df61e996e96dba6d99dc2dafab527465162c4efb209b272b280560e47377ff37"), looks := true }, kinds := [], alts := [], laidByText := true, laidKinds := [.data, .data, .data, .sentinel, .sentinel], laidTests := true, laidLooks := .later }
def EpochTextsUptoCardSaid : Prop := Claim7.holds Tryd.pinned (.plain (OpenSpec.upto epochTextsSpec)) epochTextsUptoCard

/-- THE SECOND FORM's CARD OF 'linesmanlaw03.EpochEach'. -/
def epochEachUptoCard : Claim7 := { stood := { row := epochEachUptoRow, standIns := [], harness := (true, "df61e996e96dba6d99dc2dafab527465162c4efb209b272b280560e47377ff37"), looks := true }, kinds := [], alts := [], laidByText := true, laidKinds := [.data, .data, .data, .sentinel, .sentinel], laidTests := true, laidLooks := .later }
def EpochEachUptoCardSaid : Prop := Claim7.holds Tryd.pinned (.plain (OpenSpec.upto epochEachSpec)) epochEachUptoCard

/-- THE SECOND FORM's CARD OF 'linesmanlaw03.EpochHolds'. -/
def epochHoldsUptoCard : Claim7 := { stood := { row := epochHoldsUptoRow, standIns := [], harness := (true, "df61e996e96dba6d99dc2dafab527465162c4efb209b272b280560e47377ff37"), looks := true }, kinds := [], alts := [], laidByText := true, laidKinds := [.data, .data, .data, .sentinel, .sentinel], laidTests := true, laidLooks := .later }
def EpochHoldsUptoCardSaid : Prop := Claim7.holds Tryd.pinned (.plain (OpenSpec.upto epochHoldsSpec)) epochHoldsUptoCard
end Rows
end Go.Proofs.YtlbloehhmpnkgaaDoor
