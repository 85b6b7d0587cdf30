/-
  DERIVED. GIVEN WITH THE SEED: THE CARDS: each row of YtdbbilabhlnhmaaGreatDoorRows.lean that lists a variable, with what it lists TIED to the program's text (the seventh form; the later family's looks); each row that meets fmt, with fmt's text TOLD by the authors' own Lean function (tested against real Go, not proved from fmt's source: count such statements apart). THE CARD IS WHAT COUNTS. Prove the row's statement (the work); the ties are given (YtdbbilabhlnhmaaGreatDoorTie.lean); close each card by the builder's one call (the guide's Derived/Test/ToyasCard.lean, 'card_holds'). Laid BY PROGRAM, IN A SANDBOX (cutbox-door.mjs). By AI agents, Wed Nov 11 2026. No macro, syntax, notation, axiom, sorry.
-/
import Derived.Test.YtdbbilabhlnhmaaGreatDoorRows
import GoSem.ClaimSeven
namespace Go.Proofs.YtdbbilabhlnhmaaGreatDoor
namespace Rows

/-- THE TIED CARD OF 'linesmanlaw08.InstrBytes'. -/
def instrBytesCard : Claim7 := { stood := { row := instrBytesRow, standIns := [], harness := (true, "85c21bd09174ae6cc21605e2e9b11274b283cded4970aff82308f4916a921e9d"), looks := true }, kinds := [], alts := [], laidByText := true, laidKinds := [.data, .data, .data, .data, .sentinel, .sentinel, .data, .data, .data, .pinned], laidTests := true, laidLooks := .later }
def InstrBytesCardSaid : Prop := Claim7.holds Tryz.pinned (.plain (OpenSpec.ofChange instrBytesSpec)) instrBytesCard

/-- THE TIED CARD OF 'linesmanlaw08.InstrTexts'. -/
def instrTextsCard : Claim7 := { stood := { row := instrTextsRow, standIns := [], harness := (true, "85c21bd09174ae6cc21605e2e9b11274b283cded4970aff82308f4916a921e9d"), looks := true }, kinds := [], alts := [], laidByText := true, laidKinds := [.data, .data, .data, .data, .sentinel, .sentinel, .data, .data, .data, .pinned], laidTests := true, laidLooks := .later }
def InstrTextsCardSaid : Prop := Claim7.holds Tryz.pinned (.plain (OpenSpec.ofChange instrTextsSpec)) instrTextsCard

/-- THE TIED CARD OF 'linesmanlaw08.InstrEach'. -/
def instrEachCard : Claim7 := { stood := { row := instrEachRow, standIns := [], harness := (true, "85c21bd09174ae6cc21605e2e9b11274b283cded4970aff82308f4916a921e9d"), looks := true }, kinds := [], alts := [], laidByText := true, laidKinds := [.data, .data, .data, .data, .sentinel, .sentinel, .data, .data, .data, .pinned], laidTests := true, laidLooks := .later }
def InstrEachCardSaid : Prop := Claim7.holds Tryz.pinned (.plain (OpenSpec.ofChange instrEachSpec)) instrEachCard

/-- THE SECOND FORM's CARD OF 'linesmanlaw08.InstrBytes'. -/
def instrBytesUptoCard : Claim7 := { stood := { row := instrBytesUptoRow, standIns := [], harness := (true, "85c21bd09174ae6cc21605e2e9b11274b283cded4970aff82308f4916a921e9d"), looks := true }, kinds := [], alts := [], laidByText := true, laidKinds := [.data, .data, .data, .data, .sentinel, .sentinel, .data, .data, .data, .pinned], laidTests := true, laidLooks := .later }
def InstrBytesUptoCardSaid : Prop := Claim7.holds Tryz.pinned (.plain (OpenSpec.upto instrBytesSpec)) instrBytesUptoCard

/-- THE SECOND FORM's CARD OF 'linesmanlaw08.InstrTexts'. -/
def instrTextsUptoCard : Claim7 := { stood := { row := instrTextsUptoRow, standIns := [], harness := (true, "85c21bd09174ae6cc21605e2e9b11274b283cded4970aff82308f4916a921e9d"), looks := true }, kinds := [], alts := [], laidByText := true, laidKinds := [.data, .data, .data, .data, .sentinel, .sentinel, .data, .data, .data, .pinned], laidTests := true, laidLooks := .later }
def InstrTextsUptoCardSaid : Prop := Claim7.holds Tryz.pinned (.plain (OpenSpec.upto instrTextsSpec)) instrTextsUptoCard

/-- THE SECOND FORM's CARD OF 'linesmanlaw08.InstrEach'. -/
def instrEachUptoCard : Claim7 := { stood := { row := instrEachUptoRow, standIns := [], harness := (true, "85c21bd09174ae6cc21605e2e9b11274b283cded4970aff82308f4916a921e9d"), looks := true }, kinds := [], alts := [], laidByText := true, laidKinds := [.data, .data, .data, .data, .sentinel, .sentinel, .data, .data, .data, .pinned], laidTests := true, laidLooks := .later }
def InstrEachUptoCardSaid : Prop := Claim7.holds Tryz.pinned (.plain (OpenSpec.upto instrEachSpec)) instrEachUptoCard
end Rows
end Go.Proofs.YtdbbilabhlnhmaaGreatDoor
